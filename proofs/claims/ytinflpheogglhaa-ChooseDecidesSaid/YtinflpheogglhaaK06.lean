/-
  Entries and reports compared.
-/
import Derived.Test.YtinflpheogglhaaK00
import Derived.Test.YtinflpheogglhaaK01
import Derived.Test.YtinflpheogglhaaK02
import Derived.Test.YtinflpheogglhaaK04
import Derived.Test.YtinflpheogglhaaK05
import Derived.OwnWalk
import Derived.Test.YtinflpheogglhaaProg
import Derived.WalkSpells
import Derived.Laws.AppendOwnNone
import Derived.Lib.Hide
import Derived.Lib.AppendZeros
import Derived.Outline
import Derived.Laws.IdiomStrings
import Derived.Tactics
import Derived.WalkKit
import Derived.BigQuiet
import Derived.Laws.Bits64
import Derived.Deep.DeepFit
import Derived.Laws.BitsAllLaws
import Derived.Laws.BytesString
import Derived.Deep.RegionHeld3
import Derived.LoopN
import Derived.Deep.RegionHeld
import Derived.Deep.MidRow
namespace Go.Proofs.Ytinflpheogglhaa
set_option maxRecDepth 100000
section
open Go Go.RowKit
def eqE (a b : Ent) : Bool := decide (a.k = b.k ∧ a.cl = b.cl ∧ a.sq = b.sq ∧ a.ok = b.ok ∧ a.key = b.key ∧ a.old = b.old ∧ a.val = b.val)
theorem eqE_iff {a b : Ent} : eqE a b = true ↔ a = b := by
  unfold eqE
  rw [decide_eq_true_iff]
  obtain ⟨a1, a2, a3, a4, a5, a6, a7⟩ := a
  obtain ⟨b1, b2, b3, b4, b5, b6, b7⟩ := b
  constructor
  · rintro ⟨h1, h2, h3, h4, h5, h6, h7⟩
    dsimp only at h1 h2 h3 h4 h5 h6 h7
    rw [h1, h2, h3, h4, h5, h6, h7]
  · intro h
    injection h with h1 h2 h3 h4 h5 h6 h7
    exact ⟨h1, h2, h3, h4, h5, h6, h7⟩
theorem eqE_self (a : Ent) : eqE a a = true := eqE_iff.2 rfl
theorem toList_injR (a b : ByteArray) : a.toList = b.toList ↔ a = b := by
  rw [ByteArray.toList_eq, ByteArray.toList_eq]
  obtain ⟨a⟩ := a
  obtain ⟨b⟩ := b
  constructor
  · intro h
    have h' : a = b := Array.toList_inj.1 h
    rw [h']
  · intro h
    rw [h]
theorem ent_parts (a b : Ent) (r : Bool) (hr : eqE a b = r) {α : Type} (g : Bool → α) : (if (a.k : Int) = (b.k : Int) then if a.cl = b.cl then if a.sq = b.sq then if (a.ok : Int) = (b.ok : Int) then if a.key.toList = b.key.toList then if a.old.toList = b.old.toList then if a.val.toList = b.val.toList then g true else g false else g false else g false else g false else g false else g false else g false) = g r := by
  simp only [toList_injR]
  have hn : ∀ b', eqE a b = b' → g b' = g r := fun b' h => by rw [← h, hr]
  unfold eqE at hn
  by_cases h1 : a.k = b.k
  · by_cases h2 : a.cl = b.cl
    · by_cases h3 : a.sq = b.sq
      · by_cases h4 : a.ok = b.ok
        · by_cases h5 : a.key = b.key
          · by_cases h6 : a.old = b.old
            · by_cases h7 : a.val = b.val
              · rw [if_pos (by rw [h1]), if_pos h2, if_pos h3, if_pos (by rw [h4]), if_pos h5, if_pos h6, if_pos h7]
                exact hn _ (decide_eq_true ⟨h1, h2, h3, h4, h5, h6, h7⟩)
              · rw [if_pos (by rw [h1]), if_pos h2, if_pos h3, if_pos (by rw [h4]), if_pos h5, if_pos h6, if_neg h7]
                exact hn _ (decide_eq_false fun h => h7 h.2.2.2.2.2.2)
            · rw [if_pos (by rw [h1]), if_pos h2, if_pos h3, if_pos (by rw [h4]), if_pos h5, if_neg h6]
              exact hn _ (decide_eq_false fun h => h6 h.2.2.2.2.2.1)
          · rw [if_pos (by rw [h1]), if_pos h2, if_pos h3, if_pos (by rw [h4]), if_neg h5]
            exact hn _ (decide_eq_false fun h => h5 h.2.2.2.2.1)
        · rw [if_pos (by rw [h1]), if_pos h2, if_pos h3, if_neg (by omega)]
          exact hn _ (decide_eq_false fun h => h4 h.2.2.2.1)
      · rw [if_pos (by rw [h1]), if_pos h2, if_neg h3]
        exact hn _ (decide_eq_false fun h => h3 h.2.2.1)
    · rw [if_pos (by rw [h1]), if_neg h2]
      exact hn _ (decide_eq_false fun h => h2 h.2.1)
  · rw [if_neg (by omega)]
    exact hn _ (decide_eq_false fun h => h1 h.1)
theorem cent_eql (a b : Ent) (w : World) : (binOp .eql 27 (eA a) (eA b)).run Try.prog w = .ok (.bool (eqE a b)) w := by
  obtain ⟨r, hr⟩ : ∃ r, eqE a b = r := ⟨_, rfl⟩
  rw [hr]
  have hf : Try.prog.stoodInHeld 27 = false := by kernel_rfl
  have hu := Try.underlying27
  have hu2 := Try.underlying25
  rw [run_eql_struct, run_equalIn_agg _ _ _ _ _ (by rw [Program.fieldsOf, hu]) hf, Program.fieldsOf, hu]
  simp [Op.eqFields, go_sem]
  exact ent_parts a b r hr fun b => Result.ok (α := Value) (Value.bool b) w
theorem cent_neq (a b : Ent) (w : World) : (binOp .neq 27 (eA a) (eA b)).run Try.prog w = .ok (.bool (!eqE a b)) w := by
  obtain ⟨r, hr⟩ : ∃ r, eqE a b = r := ⟨_, rfl⟩
  rw [hr]
  have hf : Try.prog.stoodInHeld 27 = false := by kernel_rfl
  have hu := Try.underlying27
  have hu2 := Try.underlying25
  rw [run_neq_struct, run_equalIn_agg _ _ _ _ _ (by rw [Program.fieldsOf, hu]) hf, Program.fieldsOf, hu]
  simp [Op.eqFields, go_sem]
  exact ent_parts a b r hr fun b => Result.ok (α := Value) (Value.bool (!b)) w
theorem crep_neq (r : Rpt) (w : World) : (binOp .neq 54 (rA r) (rA r)).run Try.prog w = .ok (.bool false) w := by
  have hf : Try.prog.stoodInHeld 54 = false := by kernel_rfl
  have hu := Try.underlying54
  have hub := Try.underlying40
  have hue := Try.underlying27
  have huo := Try.underlying25
  rw [run_neq_struct, run_equalIn_agg _ _ _ _ _ (by rw [Program.fieldsOf, hu]) hf, Program.fieldsOf, hu]
  simp [Op.eqFields, go_sem]
end
section
open Go Go.RowKit
theorem wpList_append_ls {α : Type} {cells : α → List Value} {N : Nat} (hN : ∀ a, (cells a).length = N) (h0 : 0 < N) (h1 : ∀ a, ∀ u ∈ cells a, u.oneCell' = true) {P : Program} {w : World} {ops : Array Oper} {rest : List Oper} {o : Oper} {a : Act} {Q : Exit → Act → World → Prop} (hgd : o.guard = none) (s x : Operand) (t : TypeId)
    (ho : o.op = .call { callee := .builtin .append, args := #[s, x], argTypes := #[t, t] })
    (base : Nat) (e : TypeId) (i : TypeInfo) (z : Value) (bytes : Nat) (ht : P.underlying t = some (.slice e)) (hi : P.info? e = some i) (hz : i.zero = some z) (hsize : i.size = N) (hby : i.bytes = bytes) (hzs : z.cells.size = N)
    (v : Value) (n : Nat) (xs : List Value) (hs : a.eval s = v) (hown : w.ownsRow base e N v n xs) (B : Nat) (A : Option Addr) (m c : Nat) (l : List α) (hx : a.eval x = .slice A m c) (hl : Ls cells N w B A m c l)
    (h63 : n + m ≤ maxLen) (hbytes : (n + m) * bytes ≤ 140737488355328) (hbase : base ≤ w.heap.size)
    (h : ∀ v' w', w'.ownsRow base e N v' (n + m) (xs ++ l.flatMap cells) → w.grownBy w' v.ownBlock → wpList P ops Q rest (a.put o.dst v') w') : wpList P ops Q (o :: rest) a w := by
  cases A with
  | none =>
    have hc := hl.nil_ rfl
    have hm : m = 0 := by have := hl.cap; omega
    subst hc hm
    have hl0 : l = [] := List.eq_nil_of_length_eq_zero hl.len
    subst hl0
    refine wpList_append_own_none hgd s x t ho base e i N ht hi v n xs hs hown hx ?_
    exact h v w (by simpa using hown) (World.grownBy.refl _ _)
  | some ad =>
    exact wpList_append_own w hgd s x t ho base e i z N bytes ht hi hz hsize hby hzs h0 v n xs hs hown ad m c (l.flatMap cells) hx (by rw [flat_len hN, hl.len]) (hl.news hN h0) (fun u hu => by
      obtain ⟨b, _, hb⟩ := List.mem_flatMap.1 hu
      exact h1 b u hb) h63 hbytes hbase fun v' w' h2 h3 _ => h v' w' h2 h3
theorem Bal.one (a : Bal) : ∀ u ∈ Bal.cells a, u.oneCell' = true := by
  intro u hu
  simp only [Bal.cells, List.mem_cons, List.not_mem_nil, or_false] at hu
  rcases hu with rfl | rfl <;> rfl
end
section
open Go Go.RowKit
set_option maxHeartbeats 800000 in
theorem rcopy_of (A : Option Addr) (n c : Nat) (l : List Rpt) (w : World) (h : Ls rptC 11 w w.heap.size A n c l) (hn : n ≤ 20) :
    Calls Try.prog 9 #[.slice A n c] w fun e w' => ∃ A' c', e = .returned (.slice A' n c') ∧ Ls rptC 11 w' w'.heap.size A' n c' l ∧ Ext w w' := by
  obtain ⟨i0, hi, hz0, hz1, hz2⟩ := info_parts report_info
  have H := Lib.hid h
  have HLN := Lib.hid h.len
  clear h
  go_enter Try.func9, Try.ntmps9
  go_wp2_with (at_builtin; refine wpList_append_ls (cells := rptC) (N := 11) (fun _ => rfl) (by omega) rptC_one rfl _ _ 22 rfl w.heap.size 54 i0 (.agg #[.int .i64 0, .int .u8 0, .int .i64 0, .int .i64 0, .int .u8 0, .int .i64 0, .int .i64 0, .int .u8 0, .string ByteArray.empty, .string ByteArray.empty, .string ByteArray.empty]) 112 Try.underlying22 hi hz0 hz1 hz2 rfl _ 0 [] rfl (World.ownsRow_nil _ _ _ _) _ A n c l rfl H.out (by unfold maxLen; omega) (by omega) (Nat.le_refl _) ?_)
  intro v1 w1 hown hg
  try rw [Nat.zero_add, List.nil_append] at hown
  obtain ⟨A1, c1, rfl, hl1⟩ := Ls.of_row (cells := rptC) (fun _ => rfl) (by omega) HLN.out hown
  have HL1 := Lib.hid hl1
  have HX := Lib.hid (Below.grown (Ext.refl w) hg (Nat.le_refl _) (fun g hg' => by cases hg'))
  clear hown hg hl1
  go_wp2_with fail
  go_ret
  exact ⟨_, _, rfl, HL1.out, HX.out⟩
set_option maxHeartbeats 1600000 in
theorem rsame_of (A B : Option Addr) (n c d : Nat) (l : List Rpt) (w : World) (h : Ls rptC 11 w w.heap.size A n c l) (h2 : Ls rptC 11 w w.heap.size B n d l) :
    Calls Try.prog 12 #[.slice A n c, .slice B n d] w fun e w' => e = .returned (.bool true) ∧ Ext w w' := by
  have hcap := h.cap
  have hcap2 := h2.cap
  have hmost := h.most
  have hmost2 := h2.most
  have H := Lib.hid h
  have H2 := Lib.hid h2
  have HLN := Lib.hid h.len
  clear h h2
  go_enter Try.func12, Try.ntmps12
  go_wp2_with fail
  go_loopw [5] (fun i wr => ∃ j : Nat, j ≤ n ∧ i = .int .i64 (j : Int) ∧ Hid (Ext w wr)) (fun i _ => n - (intOf i).toNat)
  case atStart => exact ⟨0, Nat.zero_le _, rfl, Lib.hid (Ext.refl _)⟩
  case round =>
    obtain ⟨j, hj, rfl, HX⟩ := hrel
    by_cases hlt : j < n
    · obtain ⟨g, o, r, rfl, _, hb, hrc⟩ := Ls.rpt (H.out.below HX.out) hlt
      obtain ⟨g2, o2, r2, rfl, _, hb2, hrc2⟩ := Ls.rpt (H2.out.below HX.out) hlt
      rw [hb] at hb2
      injection hb2 with hb2
      subst hb2
      obtain ⟨c0, c1, c2, c3, c4, c5, c6, c7, c8, c9, c10⟩ := hrc
      obtain ⟨d0, d1, d2, d3, d4, d5, d6, d7, d8, d9, d10⟩ := hrc2
      have hc : wr.cell? ⟨g, o + j * 11, none⟩ = some (.int .i64 r.ix) ∧ wr.cell? ⟨g, o + j * 11 + 1, none⟩ = some (.int .u8 (r.st : Int)) ∧ wr.cell? ⟨g, o + j * 11 + 2, none⟩ = some (.int .i64 r.x) ∧ wr.cell? ⟨g, o + j * 11 + 3, none⟩ = some (.int .i64 r.y) ∧ wr.cell? ⟨g, o + j * 11 + 4, none⟩ = some (.int .u8 (r.e.k : Int)) ∧ wr.cell? ⟨g, o + j * 11 + 5, none⟩ = some (.int .i64 r.e.cl) ∧ wr.cell? ⟨g, o + j * 11 + 6, none⟩ = some (.int .i64 r.e.sq) ∧ wr.cell? ⟨g, o + j * 11 + 7, none⟩ = some (.int .u8 (r.e.ok : Int)) ∧ wr.cell? ⟨g, o + j * 11 + 8, none⟩ = some (.string r.e.key) ∧ wr.cell? ⟨g, o + j * 11 + 9, none⟩ = some (.string r.e.old) ∧ wr.cell? ⟨g, o + j * 11 + 10, none⟩ = some (.string r.e.val) ∧ wr.cell? ⟨g2, o2 + j * 11, none⟩ = some (.int .i64 r.ix) ∧ wr.cell? ⟨g2, o2 + j * 11 + 1, none⟩ = some (.int .u8 (r.st : Int)) ∧ wr.cell? ⟨g2, o2 + j * 11 + 2, none⟩ = some (.int .i64 r.x) ∧ wr.cell? ⟨g2, o2 + j * 11 + 3, none⟩ = some (.int .i64 r.y) ∧ wr.cell? ⟨g2, o2 + j * 11 + 4, none⟩ = some (.int .u8 (r.e.k : Int)) ∧ wr.cell? ⟨g2, o2 + j * 11 + 5, none⟩ = some (.int .i64 r.e.cl) ∧ wr.cell? ⟨g2, o2 + j * 11 + 6, none⟩ = some (.int .i64 r.e.sq) ∧ wr.cell? ⟨g2, o2 + j * 11 + 7, none⟩ = some (.int .u8 (r.e.ok : Int)) ∧ wr.cell? ⟨g2, o2 + j * 11 + 8, none⟩ = some (.string r.e.key) ∧ wr.cell? ⟨g2, o2 + j * 11 + 9, none⟩ = some (.string r.e.old) ∧ wr.cell? ⟨g2, o2 + j * 11 + 10, none⟩ = some (.string r.e.val) := ⟨c0, c1, c2, c3, c4, c5, c6, c7, c8, c9, c10, d0, d1, d2, d3, d4, d5, d6, d7, d8, d9, d10⟩
      have HC := Lib.hid hc
      have hq := fun V => crep_neq r V
      clear c0 c1 c2 c3 c4 c5 c6 c7 c8 c9 c10 d0 d1 d2 d3 d4 d5 d6 d7 d8 d9 d10
      go_wp2_with fail
      go_region_held3 (fun w' => w'.cell? ⟨g, o + j * 11, none⟩ = some (.int .i64 r.ix) ∧ w'.cell? ⟨g, o + j * 11 + 1, none⟩ = some (.int .u8 (r.st : Int)) ∧ w'.cell? ⟨g, o + j * 11 + 2, none⟩ = some (.int .i64 r.x) ∧ w'.cell? ⟨g, o + j * 11 + 3, none⟩ = some (.int .i64 r.y) ∧ w'.cell? ⟨g, o + j * 11 + 4, none⟩ = some (.int .u8 (r.e.k : Int)) ∧ w'.cell? ⟨g, o + j * 11 + 5, none⟩ = some (.int .i64 r.e.cl) ∧ w'.cell? ⟨g, o + j * 11 + 6, none⟩ = some (.int .i64 r.e.sq) ∧ w'.cell? ⟨g, o + j * 11 + 7, none⟩ = some (.int .u8 (r.e.ok : Int)) ∧ w'.cell? ⟨g, o + j * 11 + 8, none⟩ = some (.string r.e.key) ∧ w'.cell? ⟨g, o + j * 11 + 9, none⟩ = some (.string r.e.old) ∧ w'.cell? ⟨g, o + j * 11 + 10, none⟩ = some (.string r.e.val) ∧ w'.cell? ⟨g2, o2 + j * 11, none⟩ = some (.int .i64 r.ix) ∧ w'.cell? ⟨g2, o2 + j * 11 + 1, none⟩ = some (.int .u8 (r.st : Int)) ∧ w'.cell? ⟨g2, o2 + j * 11 + 2, none⟩ = some (.int .i64 r.x) ∧ w'.cell? ⟨g2, o2 + j * 11 + 3, none⟩ = some (.int .i64 r.y) ∧ w'.cell? ⟨g2, o2 + j * 11 + 4, none⟩ = some (.int .u8 (r.e.k : Int)) ∧ w'.cell? ⟨g2, o2 + j * 11 + 5, none⟩ = some (.int .i64 r.e.cl) ∧ w'.cell? ⟨g2, o2 + j * 11 + 6, none⟩ = some (.int .i64 r.e.sq) ∧ w'.cell? ⟨g2, o2 + j * 11 + 7, none⟩ = some (.int .u8 (r.e.ok : Int)) ∧ w'.cell? ⟨g2, o2 + j * 11 + 8, none⟩ = some (.string r.e.key) ∧ w'.cell? ⟨g2, o2 + j * 11 + 9, none⟩ = some (.string r.e.old) ∧ w'.cell? ⟨g2, o2 + j * 11 + 10, none⟩ = some (.string r.e.val))
        (first | with_reducible exact hc | assumption | go_keep)
        (fail)
      have HX := Lib.hid (HX.out.trans (Ext.refl _).drew)
      clear hc hq HC
      go_wp2_with fail
      go_roundw
      case rel => exact ⟨j + 1, by omega, by go_num, HX⟩
      case measure => simp [intOf]; omega
    · obtain rfl : j = n := by omega
      go_wp2_with fail
      go_ret
      exact ⟨rfl, HX.out⟩
theorem decR_three (n : Int) (l : List Rpt) : (decR n l).1 = 0 ∨ (decR n l).1 = 1 ∨ (decR n l).1 = 2 := by
  unfold decR
  split
  · split
    · exact .inl rfl
    · cases bestR l with
      | none => exact .inr (.inl rfl)
      | some q => exact .inr (.inr rfl)
  · exact .inl rfl
set_option maxHeartbeats 1600000 in
theorem chooseDecides_law (n : Int) (A : Option Addr) (m c : Nat) (l : List Rpt) (w : World) (_hn : (Lit.int .i64 n).wf = true) (hl : Ls rptC 11 w w.heap.size A m c l ∧ ∀ a ∈ l, a.Wf) :
    Calls Try.prog 3 #[.int .i64 n, .slice A m c] w fun e w' => e = .returned (.bool true) ∧ Below w.heap.size w w' := by
  show Calls Try.prog 3 #[.int .i64 n, .slice A m c] w fun e w' => e = .returned (.bool true) ∧ Ext w w'
  obtain ⟨h, _⟩ := hl
  have hcap := h.cap
  have hmost := h.most
  have H := Lib.hid h
  have h3 := decR_three n l
  obtain ⟨D, hD⟩ : ∃ D, decR n l = D := ⟨_, rfl⟩
  obtain ⟨F, hF⟩ : ∃ F, decE n l = F := ⟨_, rfl⟩
  rw [hD] at h3
  have HD := Lib.hid (And.intro hD hF)
  obtain ⟨q, E⟩ := D
  dsimp only at h3
  clear h hD hF
  by_cases hm : m ≤ 20
  · go_enter Try.func3, Try.ntmps3
    go_wp2_with fail
    refine (rcopy_of A m c l w H.out hm).mono ?_
    rintro _ w1 ⟨A1, c1, rfl, hl1, hx1⟩
    have HL1 := Lib.hid hl1
    have H1 := Lib.hid ((H.out.below hx1).moreB hx1.size)
    have HX1 := Lib.hid hx1
    clear hl1 hx1
    have HC1 := Lib.hid (decide_of n A1 m c1 l w1 HL1.out)
    rw [HD.out.1, HD.out.2] at HC1
    dsimp only at HC1
    go_wp2_with fail
    refine HC1.out.mono ?_
    rintro _ w2 ⟨rfl, hx2⟩
    have HL2 := Lib.hid ((HL1.out.below hx2).moreB hx2.size)
    have H2 := Lib.hid ((H1.out.below hx2).moreB hx2.size)
    have HX2 := Lib.hid (HX1.out.trans hx2)
    clear hx2 HL1 H1 HX1 HC1
    go_upto_region 5 with (fail)
    have hg := heap_alloc_new w2 (.cells #[.int .u8 (E.k : Int), .int .i64 E.cl, .int .i64 E.sq, .int .u8 (E.ok : Int), .string E.key, .string E.old, .string E.val] 27)
    have hx := (Ext.refl w2).alloc (.cells #[.int .u8 (E.k : Int), .int .i64 E.cl, .int .i64 E.sq, .int .u8 (E.ok : Int), .string E.key, .string E.old, .string E.val] 27)
    generalize (w2.alloc (.cells #[.int .u8 (E.k : Int), .int .i64 E.cl, .int .i64 E.sq, .int .u8 (E.ok : Int), .string E.key, .string E.old, .string E.val] 27)) = w3 at *
    have HL3 := Lib.hid ((HL2.out.below hx).moreB hx.size)
    have H3 := Lib.hid ((H2.out.below hx).moreB hx.size)
    have HX3 := Lib.hid (HX2.out.trans hx)
    have HG := Lib.hid hg
    generalize w2.heap.size = b1 at *
    clear hg hx HL2 H2 HX2
    have HC2 := Lib.hid (rdecide_of n A m c l w3 H3.out)
    rw [HD.out.1, HD.out.2] at HC2
    dsimp only at HC2
    go_wp2_with fail
    refine HC2.out.mono ?_
    rintro _ w4 ⟨rfl, hx2⟩
    have HL4 := Lib.hid ((HL3.out.below hx2).moreB hx2.size)
    have H4 := Lib.hid ((H3.out.below hx2).moreB hx2.size)
    have HX4 := Lib.hid (HX3.out.trans hx2)
    have HG4 := Lib.hid (keep_rowB hx2 HG.out)
    clear hx2 HL3 H3 HX3 HC2 HG
    go_upto_region 6 with (fail)
    have hg := heap_alloc_new w4 (.cells #[.int .u8 (E.k : Int), .int .i64 E.cl, .int .i64 E.sq, .int .u8 (E.ok : Int), .string E.key, .string E.old, .string E.val] 27)
    have hx := (Ext.refl w4).alloc (.cells #[.int .u8 (E.k : Int), .int .i64 E.cl, .int .i64 E.sq, .int .u8 (E.ok : Int), .string E.key, .string E.old, .string E.val] 27)
    generalize (w4.alloc (.cells #[.int .u8 (E.k : Int), .int .i64 E.cl, .int .i64 E.sq, .int .u8 (E.ok : Int), .string E.key, .string E.old, .string E.val] 27)) = w5 at *
    have HL5 := Lib.hid ((HL4.out.below hx).moreB hx.size)
    have H5 := Lib.hid ((H4.out.below hx).moreB hx.size)
    have HX5 := Lib.hid (HX4.out.trans hx)
    have HG5 := Lib.hid (And.intro (keep_rowB hx HG4.out) hg)
    generalize w4.heap.size = b2 at *
    clear hg hx HL4 H4 HX4 HG4
    obtain ⟨⟨d0, d1, d2, d3, d4, d5, d6⟩, _⟩ := ent_row HG5.out.1
    obtain ⟨⟨f0, f1, f2, f3, f4, f5, f6⟩, _⟩ := ent_row HG5.out.2
    have hq := fun V => cent_eql E E V
    rw [eqE_self] at hq
    rcases h3 with rfl | rfl | rfl
    all_goals
      go_wp2_with fail
      refine (rsame_of A1 A m c1 c l w5 HL5.out H5.out).mono ?_
      rintro _ w6 ⟨rfl, hx⟩
      have HX6 := Lib.hid (HX5.out.trans hx)
      clear hx d0 d1 d2 d3 d4 d5 d6 f0 f1 f2 f3 f4 f5 f6
      go_wp2_with fail
      go_ret
      exact ⟨rfl, HX6.out⟩
  · have hm2 : decide ((20 : Int) < (m : Int)) = true := decide_eq_true (by omega)
    clear hm
    go_enter Try.func3, Try.ntmps3
    go_wp2_with fail
    go_ret
    exact ⟨rfl, Ext.refl _⟩
end
section
open Go Go.RowKit
set_option maxHeartbeats 1600000 in
theorem chmay_of (n : Int) (A : Option Addr) (m c : Nat) (l : List Rpt) (w : World) (h : Ls rptC 11 w w.heap.size A m c l) :
    Calls Try.prog 17 #[.int .i64 n, .slice A m c] w fun e w' => e = .returned (.bool (okR n l)) ∧ w = w' := by
  have hcap := h.cap
  have hmost := h.most
  have HL := Lib.hid h
  have HLN := Lib.hid h.len
  by_cases hm0 : mostQ n = 0
  · have HOK : Hid (okR n l = false) := Lib.hid (by unfold okR; rw [most_not hm0]; rfl)
    have h3 : n ≠ 3 := fun e => by subst e; cases hm0
    have h5 : n ≠ 5 := fun e => by subst e; cases hm0
    have h7 : n ≠ 7 := fun e => by subst e; cases hm0
    have e3 : (n != 3) = true := by simpa using h3
    have e5 : (n != 5) = true := by simpa using h5
    have e7 : (n != 7) = true := by simpa using h7
    clear h3 h5 h7 hm0 h
    go_enter Try.func17, Try.ntmps17
    go_wp2_with fail
    go_ret
    exact ⟨by rw [HOK.out]; rfl, rfl⟩
  · by_cases hmn : (m : Int) = n
    · have HOK := Lib.hid (show okR n l = !l.any fun r => decide (4 < r.st) by subst hmn; exact ok_all h.len hm0)
      have h3 := mostQ_cases hm0
      clear h hm0
      obtain rfl : n = (m : Int) := hmn.symm
      have hmm : m = 3 ∨ m = 5 ∨ m = 7 := by omega
      clear h3 hmn
      rcases hmm with rfl | rfl | rfl
      all_goals
        go_enter Try.func17, Try.ntmps17
        go_wp2_with fail
        go_loopw [5] (fun iv wr => ∃ i : Nat, i ≤ l.length ∧ iv = .int .i64 (i : Int) ∧ w = wr ∧ Hid (∀ (k : Nat) (a : Rpt), k < i → l[k]? = some a → decide (4 < a.st) = false)) (fun iv _ => l.length - (intOf iv).toNat)
        case atStart => exact ⟨0, Nat.zero_le _, rfl, rfl, Lib.hid fun k a hk => absurd hk (Nat.not_lt_zero _)⟩
        case round =>
          obtain ⟨i, hi, rfl, rfl, HA⟩ := hrel
          have hlen := HLN.out
          by_cases hlt : i < l.length
          · obtain ⟨g, o, r, rfl, _, hb, hrc⟩ := Ls.rpt HL.out (by rw [← HLN.out]; exact hlt)
            have c1 := hrc.2.1
            have HBR := Lib.hid hb
            rw [hlen] at hlt hi
            clear hrc hb hlen
            by_cases hs : 4 < r.st
            · have hsz : decide ((4 : Int) < (r.st : Int)) = true := decide_eq_true (by omega)
              have HNO := Lib.hid (show (!l.any fun r => decide (4 < r.st)) = false by rw [any_yesR HBR.out (decide_eq_true hs)]; rfl)
              clear hs
              go_wp2_with fail
              go_ret
              exact ⟨by rw [HOK.out, HNO.out]; rfl, rfl⟩
            · have hsz : decide ((4 : Int) < (r.st : Int)) = false := decide_eq_false (by omega)
              have hd4 : decide (4 < r.st) = false := decide_eq_false hs
              have HD4 := Lib.hid hd4
              clear hs hd4
              go_wp2_with fail
              go_roundw
              case rel =>
                have hlen := HLN.out
                refine ⟨i + 1, by omega, by go_num, trivial, Lib.hid fun k a hk ha => ?_⟩
                by_cases hki : k = i
                · subst hki
                  rw [HBR.out] at ha
                  injection ha with ha
                  rw [← ha]
                  exact HD4.out
                · exact HA.out k a (by omega) ha
              case measure => have hlen := HLN.out; simp [intOf]; omega
          · obtain rfl : i = l.length := by omega
            have HNO := Lib.hid (show (!l.any fun r => decide (4 < r.st)) = true by rw [any_noR fun k a ha => HA.out k a (List.getElem?_eq_some_iff.1 ha).1 ha]; rfl)
            rw [hlen]
            clear hlen hlt hi
            go_wp2_with fail
            go_ret
            exact ⟨by rw [HOK.out, HNO.out]; rfl, rfl⟩
    · have HOK : Hid (okR n l = false) := Lib.hid (by unfold okR; rw [h.len, decide_eq_false hmn, Bool.and_false, Bool.false_and])
      have h3 := mostQ_cases hm0
      have hne : ((m : Int) != n) = true := by simpa using hmn
      clear h hm0 hmn
      rcases h3 with rfl | rfl | rfl
      all_goals
        go_enter Try.func17, Try.ntmps17
        go_wp2_with fail
        go_ret
        exact ⟨by rw [HOK.out]; rfl, rfl⟩
end
section
open Go Go.RowKit
def bl (s : ByteArray) : List Nat := s.data.toList.map UInt8.toNat
end
section
open Go
def num : List Nat → Nat
  | [] => 0
  | b :: r => b + 256 * num r
end
section
open Go Go.RowKit
def str (l : List Nat) : ByteArray := ⟨(l.map UInt8.ofNat).toArray⟩
end
section
open Go
structure Rec where
  st : Nat := 0
  ix : Int := 0
  bx : Int := 0
  yb : Int := 0
  wh : Int := 0
instance : Inhabited Rec := ⟨{}⟩
structure CopL where
  st : Nat := 0
  ix : Int := 0
  bx : Int := 0
  yb : Int := 0
  e : Ent := {}
instance : Inhabited CopL := ⟨{}⟩
def Rec.of (p : Rec) (i : Int) : Prop := p.st = 1 ∧ p.ix = i
def CopL.of (c : CopL) (i : Int) : Prop := c.st = 1 ∧ c.ix = i
def gtL (x y a b : Int) : Prop := a < x ∨ (a = x ∧ b < y)
instance (p : Rec) (i : Int) : Decidable (p.of i) := by unfold Rec.of; exact inferInstance
instance (c : CopL) (i : Int) : Decidable (c.of i) := by unfold CopL.of; exact inferInstance
instance (x y a b : Int) : Decidable (gtL x y a b) := by unfold gtL; exact inferInstance
def beyL (p : Rec) (f0 f1 : CopL) (i : Int) : Prop := (p.st = 1 ∧ i < p.ix) ∨ (f0.st = 1 ∧ i < f0.ix) ∨ (f1.st = 1 ∧ i < f1.ix)
def badL (f0 f1 : CopL) : Prop := f0.st = 2 ∨ f1.st = 2
instance (p : Rec) (f0 f1 : CopL) (i : Int) : Decidable (beyL p f0 f1 i) := by unfold beyL; exact inferInstance
instance (f0 f1 : CopL) : Decidable (badL f0 f1) := by unfold badL; exact inferInstance
def candL (p : Rec) (c : CopL) (i : Int) : Prop := c.of i ∧ ¬ gtL p.bx p.yb c.bx c.yb
instance (p : Rec) (c : CopL) (i : Int) : Decidable (candL p c i) := by unfold candL; exact inferInstance
end
section
open Go Go.RowKit
def setL (w : World) (g : Nat) : Nat → List Value → World
  | _, [] => w
  | o, x :: xs => setL (w.setCell ⟨g, o, none⟩ x) g (o + 1) xs
def setA (cs : Array Value) : Nat → List Value → Array Value
  | _, [] => cs
  | o, x :: xs => setA (cs.setIfInBounds o x) (o + 1) xs
theorem row_set1 {w : World} {g i : Nat} {cs : Array Value} {t : TypeId} (h : w.heap[g]? = some (.cells cs t (0, 0))) (v : Value) : (w.setCell ⟨g, i, none⟩ v).heap[g]? = some (.cells (cs.setIfInBounds i v) t (0, 0)) := by
  rw [setCell_eq_setRow w g i _ _ _ v h]
  exact setRow_heap w g _ (cs.setIfInBounds i v) _ _ h
theorem row_setL {g : Nat} {t : TypeId} : ∀ (xs : List Value) (w : World) (o : Nat) (cs : Array Value), w.heap[g]? = some (.cells cs t (0, 0)) → (setL w g o xs).heap[g]? = some (.cells (setA cs o xs) t (0, 0))
  | [], _, _, _, h => h
  | x :: xs, _, o, _, h => row_setL xs _ (o + 1) _ (row_set1 h x)
theorem mod_setL {g : Nat} : ∀ (xs : List Value) (w : World) (o : Nat), Mod (fun k => k = g) w (setL w g o xs)
  | [], w, _ => Mod.refl (fun k => k = g) w
  | x :: xs, w, o => Mod.trans (F := fun k => k = g) (Mod.setCell (F := fun k => k = g) (Mod.refl (fun k => k = g) w) (p := ⟨g, o, none⟩) (.inl rfl) x) (mod_setL xs _ (o + 1)) fun _ hi => .inl hi
theorem ext_setL {a w : World} (h : Ext a w) {g : Nat} (hg : a.heap.size ≤ g) (xs : List Value) (o : Nat) : Ext a (setL w g o xs) :=
  Mod.to_ext (Mod.trans (F := fun k => k = g) (Mod.of_ext (F := fun k => k = g) h) (mod_setL xs w o) fun _ hi => .inl hi) fun i hi => by subst hi; exact hg
end
section
open Go Go.RowKit
theorem setCells_eq (g : Nat) : ∀ (vs : List Value) (w : World) (o : Nat), w.setCells g o vs = setL w g o vs
  | [], _, _ => rfl
  | _ :: vs, _, o => setCells_eq g vs _ (o + 1)
theorem there_row {w : World} {g : Nat} {cs : Array Value} {t : TypeId} (h : w.heap[g]? = some (.cells cs t (0, 0))) (o n : Nat) (hn : o + n ≤ cs.size) : w.there g o n := fun j hj => by
  refine ⟨?_, frozen_of_row w g (o + j) _ _ h⟩
  rw [cell_of_row w g (o + j) _ _ _ h, Array.getElem?_eq_getElem (by omega)]
  rfl
theorem row_setCells {w : World} {g : Nat} {cs : Array Value} {t : TypeId} (h : w.heap[g]? = some (.cells cs t (0, 0))) (o : Nat) (vs : List Value) : (w.setCells g o vs).heap[g]? = some (.cells (setA cs o vs) t (0, 0)) := by
  rw [setCells_eq]
  exact row_setL vs w o cs h
theorem ext_setCells {a w : World} (h : Ext a w) {g : Nat} (hg : a.heap.size ≤ g) (o : Nat) (vs : List Value) : Ext a (w.setCells g o vs) := by
  rw [setCells_eq]
  exact ext_setL h hg vs o
end
section
open Go Go.RowKit
variable {P : Program}
end
section
open Go Go.RowKit
theorem ls_flat {w : World} {b n : Nat} {cs : Array Value} {t : TypeId} {l : List Rpt} (hl : l.length = n) (hm : n ≤ 9223372036854775807) (hc : cs.toList = l.flatMap rptC) (h : w.heap[b]? = some (.cells cs t (0, 0))) : Ls rptC 11 w w.heap.size (some ⟨b, 0, none⟩) n n l := by
  refine ⟨hl, Nat.le_refl _, hm, fun _ => ⟨b, 0, rfl, (Array.getElem?_eq_some_iff.1 h).1, fun j a ha k v hv => ?_⟩, fun e => by cases e⟩
  have hk : k < 11 := (List.getElem?_eq_some_iff.1 hv).1
  have hf := flat_get (cells := rptC) (N := 11) (fun _ => rfl) (by omega) l j k hk
  rw [ha] at hf
  rw [Nat.zero_add, cell_of_row w b _ _ _ _ h, ← Array.getElem?_toList, hc, hf]
  exact hv
theorem heap_new_at {w : World} {o : Obj} {k : Nat} (hk : w.heap.size = k) : (w.alloc o).heap[k]? = some o := by
  subst hk
  exact heap_alloc_new w o
def entW (want : Nat) (sq : Int) : Ent := if want = 2 then { k := 2, sq := sq } else if want = 1 then noopE else {}
def toldR (st : Nat) (x y sq : Int) : Rpt := ⟨0, st, x, y, if st = 2 then { k := 2, sq := sq } else {}⟩
set_option maxHeartbeats 1600000 in
theorem told_of (st : Nat) (x y sq : Int) (w : World) : Calls Try.prog 29 #[.int .u8 (st : Int), .int .i64 x, .int .i64 y, .int .i64 sq] w fun e w' => e = .returned (rA (toldR st x y sq)) ∧ Ext w w' := by
  by_cases hs : st = 2
  · subst hs
    go_enter Try.func29, Try.ntmps29
    go_wp2_with fail
    refine bodyPost_ret (v := rA (toldR 2 x y sq)) (by simp [results, Try.results29, go_sem, toldR]; rfl) rfl ?_
    exact ⟨rfl, ((Ext.refl w).alloc _).alloc _⟩
  · have e : ((st : Int) == 2) = false := by rw [st_is2]; exact decide_eq_false hs
    have HS := Lib.hid hs
    clear hs
    go_enter Try.func29, Try.ntmps29
    go_wp2_with fail
    refine bodyPost_ret (v := rA (toldR st x y sq)) (by simp [results, Try.results29, go_sem, toldR, HS.out]; rfl) rfl ?_
    exact ⟨rfl, ((Ext.refl w).alloc _).alloc _⟩
set_option maxHeartbeats 1600000 in
theorem decides_of (a b c : Rpt) (want : Nat) (sq : Int) (w : World) (hw : want = 0 ∨ want = 1 ∨ want = 2) (hd : decR 3 [a, b, c] = (want, entW want sq)) (he : decE 3 [a, b, c] = 0) :
    Calls Try.prog 30 #[rA a, rA b, rA c, .int .u8 (want : Int), .int .i64 sq] w fun e w' => e = .returned (.bool true) ∧ Ext w w' := by
  obtain ⟨a0, a1, a2, a3, aE⟩ := a
  obtain ⟨b0, b1, b2, b3, bE⟩ := b
  obtain ⟨c0, c1, c2, c3, cE⟩ := c
  obtain ⟨E, hE⟩ : ∃ E, entW want sq = E := ⟨_, rfl⟩
  rw [hE] at hd
  have HD := Lib.hid (And.intro hd he)
  clear hd he
  rcases hw with rfl | rfl | rfl
  · have hq : ∀ V, (binOp .eql 27 (eA E) (.agg #[.int .u8 0, .int .i64 0, .int .i64 0, .int .u8 0, .string ⟨#[]⟩, .string ⟨#[]⟩, .string ⟨#[]⟩])).run Try.prog V = .ok (.bool true) V := fun V => by
      have h := cent_eql E (entW 0 sq) V
      rw [hE, eqE_self] at h
      rw [← hE] at h ⊢
      exact h
    have HQ := Lib.hid hq
    clear hq hE
    go_enter Try.func30, Try.ntmps30
    go_wp2_with fail
    refine (decide_of 3 _ 3 3 [⟨a0, a1, a2, a3, aE⟩, ⟨b0, b1, b2, b3, bE⟩, ⟨c0, c1, c2, c3, cE⟩] _ (ls_flat (t := 54) (cs := (rptC ⟨a0, a1, a2, a3, aE⟩ ++ (rptC ⟨b0, b1, b2, b3, bE⟩ ++ (rptC ⟨c0, c1, c2, c3, cE⟩ ++ []))).toArray) rfl (by omega) rfl (heap_new_at ?hz0))).mono ?_
    case hz0 => simp
    rw [HD.out.1, HD.out.2]
    rintro _ w5 ⟨rfl, hx⟩
    have HX := Lib.hid ((((((Ext.refl w).alloc _).alloc _).alloc _).alloc _).trans hx)
    clear hx
    dsimp only
    go_upto_region 2 with (fail)
    have hg := heap_alloc_new w5 (.cells #[.int .u8 (E.k : Int), .int .i64 E.cl, .int .i64 E.sq, .int .u8 (E.ok : Int), .string E.key, .string E.old, .string E.val] 27)
    have hx := (Ext.refl w5).alloc (.cells #[.int .u8 (E.k : Int), .int .i64 E.cl, .int .i64 E.sq, .int .u8 (E.ok : Int), .string E.key, .string E.old, .string E.val] 27)
    generalize (w5.alloc (.cells #[.int .u8 (E.k : Int), .int .i64 E.cl, .int .i64 E.sq, .int .u8 (E.ok : Int), .string E.key, .string E.old, .string E.val] 27)) = w6 at *
    have HX6 := Lib.hid (HX.out.trans hx)
    have HX7 := Lib.hid ((HX.out.trans hx).alloc (.cells #[.int .u8 0, .int .i64 0, .int .i64 0, .int .u8 0, .string ⟨#[]⟩, .string ⟨#[]⟩, .string ⟨#[]⟩] 27))
    have hg7 := keep_rowB ((Ext.refl w6).alloc (.cells #[.int .u8 0, .int .i64 0, .int .i64 0, .int .u8 0, .string ⟨#[]⟩, .string ⟨#[]⟩, .string ⟨#[]⟩] 27)) hg
    obtain ⟨⟨d0, d1, d2, d3, d4, d5, d6⟩, _⟩ := ent_row hg7
    generalize w5.heap.size = b1 at *
    have hq := HQ.out
    clear hg hg7 hx
    go_wp2_with fail
    go_ret
    exact ⟨rfl, HX7.out⟩
  · have hq : ∀ V, (binOp .eql 27 (eA E) (.agg #[.int .u8 1, .int .i64 0, .int .i64 0, .int .u8 0, .string ⟨#[]⟩, .string ⟨#[]⟩, .string ⟨#[]⟩])).run Try.prog V = .ok (.bool true) V := fun V => by
      have h := cent_eql E (entW 1 sq) V
      rw [hE, eqE_self] at h
      rw [← hE] at h ⊢
      exact h
    have HQ := Lib.hid hq
    clear hq hE
    go_enter Try.func30, Try.ntmps30
    go_wp2_with fail
    refine (decide_of 3 _ 3 3 [⟨a0, a1, a2, a3, aE⟩, ⟨b0, b1, b2, b3, bE⟩, ⟨c0, c1, c2, c3, cE⟩] _ (ls_flat (t := 54) (cs := (rptC ⟨a0, a1, a2, a3, aE⟩ ++ (rptC ⟨b0, b1, b2, b3, bE⟩ ++ (rptC ⟨c0, c1, c2, c3, cE⟩ ++ []))).toArray) rfl (by omega) rfl (heap_new_at ?hz1))).mono ?_
    case hz1 => simp
    rw [HD.out.1, HD.out.2]
    rintro _ w5 ⟨rfl, hx⟩
    have HX := Lib.hid ((((((Ext.refl w).alloc _).alloc _).alloc _).alloc _).trans hx)
    clear hx
    dsimp only
    go_upto_region 2 with (fail)
    have hg := heap_alloc_new w5 (.cells #[.int .u8 (E.k : Int), .int .i64 E.cl, .int .i64 E.sq, .int .u8 (E.ok : Int), .string E.key, .string E.old, .string E.val] 27)
    have hx := (Ext.refl w5).alloc (.cells #[.int .u8 (E.k : Int), .int .i64 E.cl, .int .i64 E.sq, .int .u8 (E.ok : Int), .string E.key, .string E.old, .string E.val] 27)
    generalize (w5.alloc (.cells #[.int .u8 (E.k : Int), .int .i64 E.cl, .int .i64 E.sq, .int .u8 (E.ok : Int), .string E.key, .string E.old, .string E.val] 27)) = w6 at *
    have HX6 := Lib.hid (HX.out.trans hx)
    have HX7 := Lib.hid ((HX.out.trans hx).alloc (.cells #[.int .u8 1, .int .i64 0, .int .i64 0, .int .u8 0, .string ⟨#[]⟩, .string ⟨#[]⟩, .string ⟨#[]⟩] 27))
    have hg7 := keep_rowB ((Ext.refl w6).alloc (.cells #[.int .u8 1, .int .i64 0, .int .i64 0, .int .u8 0, .string ⟨#[]⟩, .string ⟨#[]⟩, .string ⟨#[]⟩] 27)) hg
    obtain ⟨⟨d0, d1, d2, d3, d4, d5, d6⟩, _⟩ := ent_row hg7
    generalize w5.heap.size = b1 at *
    have hq := HQ.out
    clear hg hg7 hx
    go_wp2_with fail
    go_ret
    exact ⟨rfl, HX7.out⟩
  · have hq : ∀ V, (binOp .eql 27 (eA E) (.agg #[.int .u8 2, .int .i64 0, .int .i64 sq, .int .u8 0, .string ⟨#[]⟩, .string ⟨#[]⟩, .string ⟨#[]⟩])).run Try.prog V = .ok (.bool true) V := fun V => by
      have h := cent_eql E (entW 2 sq) V
      rw [hE, eqE_self] at h
      rw [← hE] at h ⊢
      exact h
    have HQ := Lib.hid hq
    clear hq hE
    go_enter Try.func30, Try.ntmps30
    go_wp2_with fail
    refine (decide_of 3 _ 3 3 [⟨a0, a1, a2, a3, aE⟩, ⟨b0, b1, b2, b3, bE⟩, ⟨c0, c1, c2, c3, cE⟩] _ (ls_flat (t := 54) (cs := (rptC ⟨a0, a1, a2, a3, aE⟩ ++ (rptC ⟨b0, b1, b2, b3, bE⟩ ++ (rptC ⟨c0, c1, c2, c3, cE⟩ ++ []))).toArray) rfl (by omega) rfl (heap_new_at ?hz2))).mono ?_
    case hz2 => simp
    rw [HD.out.1, HD.out.2]
    rintro _ w5 ⟨rfl, hx⟩
    have HX := Lib.hid ((((((Ext.refl w).alloc _).alloc _).alloc _).alloc _).trans hx)
    clear hx
    dsimp only
    go_upto_region 2 with (fail)
    have hg := heap_alloc_new w5 (.cells #[.int .u8 (E.k : Int), .int .i64 E.cl, .int .i64 E.sq, .int .u8 (E.ok : Int), .string E.key, .string E.old, .string E.val] 27)
    have hx := (Ext.refl w5).alloc (.cells #[.int .u8 (E.k : Int), .int .i64 E.cl, .int .i64 E.sq, .int .u8 (E.ok : Int), .string E.key, .string E.old, .string E.val] 27)
    generalize (w5.alloc (.cells #[.int .u8 (E.k : Int), .int .i64 E.cl, .int .i64 E.sq, .int .u8 (E.ok : Int), .string E.key, .string E.old, .string E.val] 27)) = w6 at *
    have HX6 := Lib.hid (HX.out.trans hx)
    have HX7 := Lib.hid ((HX.out.trans hx).alloc (.cells #[.int .u8 2, .int .i64 0, .int .i64 sq, .int .u8 0, .string ⟨#[]⟩, .string ⟨#[]⟩, .string ⟨#[]⟩] 27))
    have hg7 := keep_rowB ((Ext.refl w6).alloc (.cells #[.int .u8 2, .int .i64 0, .int .i64 sq, .int .u8 0, .string ⟨#[]⟩, .string ⟨#[]⟩, .string ⟨#[]⟩] 27)) hg
    obtain ⟨⟨d0, d1, d2, d3, d4, d5, d6⟩, _⟩ := ent_row hg7
    generalize w5.heap.size = b1 at *
    have hq := HQ.out
    clear hg hg7 hx
    go_wp2_with fail
    go_ret
    exact ⟨rfl, HX7.out⟩
end
end Go.Proofs.Ytinflpheogglhaa
