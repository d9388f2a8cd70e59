/-
  The contract of the statements' Sector: what an act writes.
  The contract of the statements' Do: an act at the program's disk.
  The contracts of the statements' reads and Great; a disk since a world.
  The contract of the ghost statements' own first look at the chapter's example.
  The contract of the statements' Great; a round of Do over a list of acts that came in.
-/
import Derived.Test.YtldgamgdbneneaaDoorQ03
import Derived.Test.YtldgamgdbneneaaDoorQ09
import Derived.Test.YtldgamgdbneneaaDoorQ18
import Derived.Test.YtldgamgdbneneaaDoorQ21
import Derived.Test.YtldgamgdbneneaaDoorQ23
import Derived.Laws.AppendOwnNone
import Derived.Laws.OwnMore
namespace Go.Proofs.YtldgamgdbneneaaDoor
set_option maxRecDepth 100000
open Go Go.RowKit

def actV (a : Act5) : Value := .agg #[.int .u8 (a.kind : Int), .int .i64 a.sec, .int .i64 a.num, .slice a.bA a.bn a.bc, .slice a.kA a.kn a.kc]
theorem vb_rep (k x : Nat) : vb (List.replicate k x) = List.replicate k (.int .u8 (x : Int)) := by simp [vb]
theorem own_base5 {w : World} {b b' n : Nat} {e : TypeId} {s : Nat} {v : Value} {xs : List Value} (h : w.ownsRow b e s v n xs) (hb : b' ≤ b) : w.ownsRow b' e s v n xs := by
  refine ⟨h.1, ?_⟩
  rcases h.2 with h0 | ⟨g, cap, cur, hv, hbg, h1⟩
  · exact .inl h0
  · exact .inr ⟨g, cap, cur, hv, Nat.le_trans hb hbg, h1⟩
set_option maxRecDepth 100000 in
set_option maxHeartbeats 1600000 in
theorem sector_of (a : Act5) (w : World) (ha : a.Ok w w.heap.size) (hn : a.bn ≤ 140737488355328) :
    Calls Tryd.prog 62 #[actV a] w fun e w' => ∃ A n c, e = .returned (.slice A n c) ∧ w'.ownsRow w.heap.size 5 1 (.slice A n c) n (vb (actB a.num a.bl)) ∧ Ext w w' := by
  unfold actV
  have hE := (Ext.refl w).alloc (.cells #[.int .u8 (a.kind : Int), .int .i64 a.sec, .int .i64 a.num, .slice a.bA a.bn a.bc, .slice a.kA a.kn a.kc] 49)
  have hb : By w a.bA a.bn a.bc a.bl := ha.bytes
  have HB := Lib.hid (hb.ext hE)
  have HE := Lib.hid hE
  have hlen : a.bl.length = a.bn := hb.len
  have HLT := Lib.hid hb.rd.lt
  by_cases h0 : a.bn = 0
  · have hbl : a.bl = [] := List.eq_nil_of_length_eq_zero (by omega)
    obtain ⟨x, hx⟩ : ∃ x : Nat, IntKind.u8.wrap a.num = (x : Int) ∧ x = (a.num % 256).toNat := ⟨(a.num % 256).toNat, by rw [IntKind.wrap_u8]; omega, rfl⟩
    have HX : Hid (actB a.num a.bl = List.replicate 64 x) := Lib.hid (by unfold actB; rw [if_pos hbl, hx.2])
    have hxw := hx.1
    have hr0 := heap_alloc_new w (.cells #[.int .u8 (a.kind : Int), .int .i64 a.sec, .int .i64 a.num, .slice a.bA a.bn a.bc, .slice a.kA a.kn a.kc] 49)
    have HR := Lib.hid hr0
    rw [h0] at *
    obtain ⟨i0, hi, hz0, hz1, hz2⟩ := info_parts byte_info
    clear h0 hbl hx hb ha hE hlen hr0 hn
    go_enter Tryd.func62, Tryd.ntmps62
    go_wp2_with fail
    have HE0 := Lib.hid ((Ext.refl w).alloc (.cells #[.int .u8 (a.kind : Int), .int .i64 a.sec, .int .i64 a.num, .slice a.bA 0 a.bc, .slice a.kA a.kn a.kc] 49))
    clear HB HE
    go_loopw [4, 3] (fun i v wr => ∃ k : Nat, k ≤ 64 ∧ i = .int .i64 k ∧ Hid (wr.ownsRow (w.heap.size + 1) 5 1 v k (vb (List.replicate k x))) ∧ Hid (Ext w wr) ∧ w.heap.size < wr.heap.size ∧ Hid (wr.heap[w.heap.size]? = some (.cells #[.int .u8 (a.kind : Int), .int .i64 a.sec, .int .i64 a.num, .slice a.bA 0 a.bc, .slice a.kA a.kn a.kc] 49 (0, 0)))) (fun i _ _ => 64 - (intOf i).toNat)
    case atStart => exact ⟨0, by omega, rfl, Lib.hid (World.ownsRow_nil _ _ _ _), HE0, by simp, HR⟩
    case round =>
      obtain ⟨k, hk, rfl, HO, HX1, hlt0, HB⟩ := hrel
      have hc2 : wr.cell? ⟨w.heap.size, 2, none⟩ = some (.int .i64 a.num) := cell_of_row wr _ 2 _ _ _ HB.out
      by_cases hlt : k < 64
      · go_wp2_with (at_builtin; refine wpList_append_own _ rfl _ _ 38 rfl (w.heap.size + 1) 5 i0 (.int .u8 0) 1 1 Tryd.underlying38 hi hz0 hz1 hz2 rfl (by decide) _ _ _ rfl (HO.out.alloc _) ⟨wr.heap.size, 0, none⟩ 1 1 [.int .u8 (x : Int)] rfl rfl ?c1 ?c2 ?c3 ?c4 ?c5 ?_)
        case c1 =>
          intro j u hj
          match j, hj with
          | 0, hj => simp at hj; subst hj; simp [Addr.add]
        case c2 => intro u hu; simp at hu; subst hu; rfl
        case c3 => unfold maxLen; omega
        case c4 => omega
        case c5 => simp; omega
        intro v1 w1 hown hg _
        have ho : ∀ g, v1.ownBlock = some g → w.heap.size + 1 ≤ g := fun g hg' => (hown.lt g hg').1
        have hx2 : Ext w w1 := Below.grown (HX1.out.alloc (.cells #[.int .u8 (x : Int)] 5)) hg (by have := HX1.out.size; simp; omega) (fun g hg' => by have := (HO.out.lt g hg').1; omega)
        have hb2 : w1.heap[w.heap.size]? = some (.cells #[.int .u8 (a.kind : Int), .int .i64 a.sec, .int .i64 a.num, .slice a.bA 0 a.bc, .slice a.kA a.kn a.kc] 49 (0, 0)) :=
          (hg.block _ (by simp; omega) (fun e => by have := (HO.out.lt _ e.symm).1; omega)).trans ((Below.heap_alloc _ _ _ hlt0).trans HB.out)
        have HO1 : Hid (w1.ownsRow (w.heap.size + 1) 5 1 v1 (k + 1) (vb (List.replicate (k + 1) x))) := Lib.hid (by
          rw [vb_rep, List.replicate_succ', ← vb_rep]
          exact hown)
        have HX2 := Lib.hid hx2
        have HB2 := Lib.hid hb2
        have hlt1 : w.heap.size < w1.heap.size := (Array.getElem?_eq_some_iff.1 hb2).1
        clear hown hg hx2 hb2 ho hc2
        go_wp2_with fail
        go_roundw
        case rel => exact ⟨k + 1, by omega, by go_num, HO1, HX2, hlt1, HB2⟩
        case measure => simp [intOf]; omega
      · obtain rfl : k = 64 := by omega
        obtain ⟨A', c', hv, _, _⟩ := own_form HO.out
        subst hv
        go_wp2_with fail
        go_ret
        exact ⟨A', 64, c', rfl, by rw [HX.out]; exact own_base5 HO.out (by omega), HX1.out⟩
  · have hbl : a.bl ≠ [] := fun e => h0 (by rw [← hlen, e]; rfl)
    have HX : Hid (actB a.num a.bl = a.bl) := Lib.hid (by unfold actB; rw [if_neg hbl])
    have hpos : (0 : Int) < (a.bn : Int) := by omega
    clear h0 hbl hb ha hE hlen
    go_enter Tryd.func62, Tryd.ntmps62
    go_wp2_with fail
    refine (copy_by _ _ _ _ _ HB.out hn).mono ?_
    rintro e w1 ⟨A', c', rfl, _, hx, hown⟩
    have HO := Lib.hid hown
    have HX1 := Lib.hid (HE.out.trans hx)
    clear hx hown
    go_wp2_with fail
    go_ret
    exact ⟨A', a.bn, c', rfl, by rw [HX.out]; exact own_base5 HO.out (by simp), HX1.out⟩
end Go.Proofs.YtldgamgdbneneaaDoor

namespace Go.Proofs.YtldgamgdbneneaaDoor
set_option maxRecDepth 100000
open Go Go.RowKit

theorem PDisk.wide {w : World} {d : Nat} {F G : Nat → Prop} {m : DM} (h : PDisk w d F m) (hF : ∀ k, F k → G k) (hG : ∀ k, G k → k < w.heap.size) : PDisk w d G m := by
  obtain ⟨g, pv, h1, h2, _⟩ := h
  exact ⟨g, pv, h1, fun k hk => hF k (h2 k hk), hG⟩
theorem Off.mono {F G : Nat → Prop} {A : Option Addr} (h : Off G A) (hF : ∀ k, F k → G k) : Off F A := fun p hp hf => h p hp (hF _ hf)
/-- Behind steps that wrote none of its blocks, and one that was the disk's: the whole call's. -/
theorem outc_of {w w1 w2 w3 : World} {d : Nat} {F : Nat → Prop} {m' : DM} (hF : ∀ k, F k → k < w.heap.size) (h1 : Ext w w1) (h2 : PDisk w2 d (grow F w1 w2) m') (h3 : Mod F w1 w2) (h4 : Mod (fun k => w.heap.size ≤ k ∧ k < w1.heap.size) w2 w3) : PDisk w3 d (grow F w w3) m' ∧ Mod F w w3 := by
  refine ⟨(h2.mod h4 fun i hi hl => ?_).wide (fun k hk => ?_) (fun k hk => ?_), ((Mod.of_ext h1).then h3).trans h4 fun i hi => .inr hi.1⟩
  · rcases hi with hi | hi
    · have := hF i hi; omega
    · omega
  · rcases hk with hk | hk
    · exact .inl hk
    · exact .inr ⟨Nat.le_trans h1.size hk.1, Nat.lt_of_lt_of_le hk.2 h4.size⟩
  · rcases hk with hk | hk
    · exact Nat.lt_of_lt_of_le (hF k hk) (Nat.le_trans h1.size (Nat.le_trans h3.size h4.size))
    · exact hk.2
theorem Act5.Ok.ext {a : Act5} {w w' : World} (h : a.Ok w w.heap.size) (k : Ext w w') : a.Ok w' w'.heap.size := (h.below k).more k.size

/-- What an act does, by the rest of its kind. -/
def actR (m : DM) (r : Nat) (sec num : Int) (bl : List Nat) (kl : List Bool) : Int × DM :=
  match r with
  | 0 => m.flush
  | 1 => m.crash kl
  | 2 => m.start
  | 3 => m.flip sec num
  | 4 => m.lose sec
  | 5 => m.stray sec num
  | 8 => m.setPower num
  | _ => m.write sec (actB num bl)
theorem act_actR (m : DM) (kind r : Nat) (h : kind % 9 = r) (sec num : Int) (bl : List Nat) (kl : List Bool) : m.act kind sec num bl kl = actR m r sec num bl kl := by
  subst h
  rfl
set_option maxRecDepth 100000 in
set_option maxHeartbeats 6400000 in
theorem do_of {w : World} {d : Nat} {F : Nat → Prop} {m : DM} (h : PDisk w d F m) (a : Act5) (ha : a.Ok w w.heap.size) (hk : 0 < a.kn → Off F a.kA) (hn : a.bn ≤ 140737488355328) (hfew : m.waits.length ≤ 1000000) :
    Calls Tryd.prog 38 #[.pointer (some ⟨d, 0, none⟩), actV a] w (Outc d F w (m.act a.kind a.sec a.num a.bl a.kl).1 (m.act a.kind a.sec a.num a.bl a.kl).2) := by
  unfold actV
  have hE := (Ext.refl w).alloc (.cells #[.int .u8 (a.kind : Int), .int .i64 a.sec, .int .i64 a.num, .slice a.bA a.bn a.bc, .slice a.kA a.kn a.kc] 49)
  have H := Lib.hid (h.ext hE)
  have HFL := Lib.hid h.lt
  have HA := Lib.hid (ha.ext hE)
  have HK := Lib.hid hk
  have HE := Lib.hid hE
  have hnum : a.num ≤ 9223372036854775807 := (bounds_i64 ha.num).2
  have HNUM := Lib.hid hnum
  obtain ⟨r, hr⟩ : ∃ r, a.kind % 9 = r := ⟨_, rfl⟩
  have hr9 : r < 9 := by omega
  have hrm : ((a.kind : Nat) : Int).tmod 9 = (r : Int) := by rw [Int.tmod_eq_emod_of_nonneg (by omega)]; omega
  have HACT := Lib.hid (act_actR m a.kind r hr a.sec a.num a.bl a.kl)
  clear h ha hk hE hr hnum
  have fin : ∀ (E : Int) (m' : DM) (w2 : World), m.act a.kind a.sec a.num a.bl a.kl = (E, m') → PDisk w2 d (grow F (w.alloc (.cells #[.int .u8 (a.kind : Int), .int .i64 a.sec, .int .i64 a.num, .slice a.bA a.bn a.bc, .slice a.kA a.kn a.kc] 49)) w2) m' → Mod F (w.alloc (.cells #[.int .u8 (a.kind : Int), .int .i64 a.sec, .int .i64 a.num, .slice a.bA a.bn a.bc, .slice a.kA a.kn a.kc] 49)) w2 →
      Outc d F w (m.act a.kind a.sec a.num a.bl a.kl).1 (m.act a.kind a.sec a.num a.bl a.kl).2 (.returned (.int .i64 E)) w2 := fun E m' w2 he hp hm => by
    have := outc_of HFL.out HE.out hp hm (Mod.refl _ _)
    rw [he]
    exact ⟨rfl, this.1, this.2⟩
  have HFIN := Lib.hid fin
  clear fin
  have hcases : r = 0 ∨ r = 1 ∨ r = 2 ∨ r = 3 ∨ r = 4 ∨ r = 5 ∨ r = 8 ∨ (r = 6 ∨ r = 7) := by omega
  rcases hcases with e | e | e | e | e | e | e | e
  · subst e
    go_enter Tryd.func38, Tryd.ntmps38
    go_wp2_with fail
    refine (flush_pd H.out).mono ?_
    rintro e w2 ⟨rfl, hp, hm⟩
    have hfin := HFIN.out _ _ w2 HACT.out hp hm
    have HF := Lib.hid hfin
    clear hfin hp hm
    go_wp2_with fail
    go_ret
    exact HF.out
  · subst e
    go_enter Tryd.func38, Tryd.ntmps38
    go_wp2_with fail
    refine (crash_pd H.out a.kA a.kn a.kc a.kl HA.out.keep HK.out).mono ?_
    rintro e w2 ⟨rfl, hp, hm⟩
    have hfin := HFIN.out _ _ w2 HACT.out hp hm
    have HF := Lib.hid hfin
    clear hfin hp hm
    go_wp2_with fail
    go_ret
    exact HF.out
  · subst e
    go_enter Tryd.func38, Tryd.ntmps38
    go_wp2_with fail
    refine (start_pd H.out).mono ?_
    rintro e w2 ⟨rfl, hp, hm⟩
    have hfin := HFIN.out _ _ w2 HACT.out hp hm
    have HF := Lib.hid hfin
    clear hfin hp hm
    go_wp2_with fail
    go_ret
    exact HF.out
  · subst e
    go_enter Tryd.func38, Tryd.ntmps38
    go_wp2_with fail
    refine (flip_pd H.out a.sec a.num HNUM.out).mono ?_
    rintro e w2 ⟨rfl, hp, hm⟩
    have hfin := HFIN.out _ _ w2 HACT.out hp hm
    have HF := Lib.hid hfin
    clear hfin hp hm
    go_wp2_with fail
    go_ret
    exact HF.out
  · subst e
    go_enter Tryd.func38, Tryd.ntmps38
    go_wp2_with fail
    refine (lose_pd H.out a.sec).mono ?_
    rintro e w2 ⟨rfl, hp, hm⟩
    have hfin := HFIN.out _ _ w2 HACT.out hp hm
    have HF := Lib.hid hfin
    clear hfin hp hm
    go_wp2_with fail
    go_ret
    exact HF.out
  · subst e
    go_enter Tryd.func38, Tryd.ntmps38
    go_wp2_with fail
    refine (stray_pd H.out a.sec a.num).mono ?_
    rintro e w2 ⟨rfl, hp, hm⟩
    have hfin := HFIN.out _ _ w2 HACT.out hp hm
    have HF := Lib.hid hfin
    clear hfin hp hm
    go_wp2_with fail
    go_ret
    exact HF.out
  · subst e
    go_enter Tryd.func38, Tryd.ntmps38
    go_wp2_with fail
    refine (power_pd H.out a.num HNUM.out).mono ?_
    rintro e w2 ⟨rfl, hp, hm⟩
    have hfin := HFIN.out _ _ w2 HACT.out hp hm
    have HF := Lib.hid hfin
    clear hfin hp hm
    go_wp2_with fail
    go_ret
    exact HF.out
  · have HACT1 : Hid (m.act a.kind a.sec a.num a.bl a.kl = m.write a.sec (actB a.num a.bl)) := Lib.hid (by
      rw [HACT.out]
      rcases e with rfl | rfl <;> rfl)
    have g0 : ((r : Int) == 0) = false := by rw [beq_eq_false_iff_ne]; omega
    have g1 : ((r : Int) == 1) = false := by rw [beq_eq_false_iff_ne]; omega
    have g2 : ((r : Int) == 2) = false := by rw [beq_eq_false_iff_ne]; omega
    have g3 : ((r : Int) == 3) = false := by rw [beq_eq_false_iff_ne]; omega
    have g4 : ((r : Int) == 4) = false := by rw [beq_eq_false_iff_ne]; omega
    have g5 : ((r : Int) == 5) = false := by rw [beq_eq_false_iff_ne]; omega
    have g8 : ((r : Int) == 8) = false := by rw [beq_eq_false_iff_ne]; omega
    clear HACT e
    go_enter Tryd.func38, Tryd.ntmps38
    go_wp2_with fail
    refine (sector_of a _ HA.out hn).mono ?_
    rintro e w1 ⟨A, n, c, rfl, hown, hx⟩
    have hrow := heap_alloc_new w (.cells #[.int .u8 (a.kind : Int), .int .i64 a.sec, .int .i64 a.num, .slice a.bA a.bn a.bc, .slice a.kA a.kn a.kc] 49)
    have hc1 := cell_of_row w1 _ 1 _ _ _ ((hx.block _ (Array.getElem?_eq_some_iff.1 hrow).1).trans hrow)
    have hsz1 : w.heap.size + 1 ≤ w1.heap.size := by have := hx.size; simpa using this
    have hbs := Bs.of_own hown (actB_lt HA.out.bytes.rd.lt)
    have hfresh : ∀ g, (Value.slice A n c).ownBlock = some g → w.heap.size + 1 ≤ g ∧ g < w1.heap.size := fun g hg => by
      have := hown.lt g hg
      simpa using this
    have HOW := Lib.hid hown
    have HX := Lib.hid hx
    have HFR := Lib.hid hfresh
    have HBS := Lib.hid hbs
    have H1 := Lib.hid (H.out.ext hx)
    have hoff : Off F A := fun p hp hf => by
      subst hp
      have := (hfresh p.block rfl).1
      have := HFL.out _ hf
      omega
    have HOFF := Lib.hid hoff
    clear hown hx hbs hfresh hrow hoff
    go_wp2_with fail
    refine (write_pd H1.out a.sec A n c (actB a.num a.bl) HBS.out HOFF.out hfew).mono ?_
    rintro e w2 ⟨rfl, hp, hm⟩
    have hown2 : w2.ownsRow (w.heap.size + 1) 5 1 (.slice A n c) n (vb (actB a.num a.bl)) := own_base5 (own_mod HOW.out hm fun i hi hf => by
      have := (HFR.out i hi).1
      have := HFL.out _ hf
      omega) (by simp)
    have HP2 := Lib.hid hp
    have HM2 := Lib.hid hm
    have HO2 := Lib.hid hown2
    have HB0 : Hid (∀ x ∈ actB a.num a.bl, x < 256) := Lib.hid (actB_lt HA.out.bytes.rd.lt)
    have hcap := (Bs.cap HBS.out)
    have hmost := (Bs.most HBS.out)
    clear hp hm hown2 hc1
    go_wp2_with fail
    go_loopw [7] (fun i wr => ∃ k : Nat, k ≤ n ∧ i = .int .i64 k ∧ (∃ l : List Nat, (∀ x ∈ l, x < 256) ∧ Hid (wr.ownsRow (w.heap.size + 1) 5 1 (.slice A n c) n (vb l))) ∧ Hid (Mod (fun k => w.heap.size ≤ k ∧ k < w1.heap.size) w2 wr)) (fun i _ => n - (intOf i).toNat)
    case atStart => exact ⟨0, Nat.zero_le _, rfl, ⟨_, HB0.out, HO2⟩, Lib.hid (Mod.refl _ _)⟩
    case round =>
      obtain ⟨k, hk, rfl, ⟨l, hl, HO⟩, HM⟩ := hrel
      by_cases hlt : k < n
      · obtain ⟨g, cap, hv⟩ := Go.Joins.ownsRow_form HO.out (by omega)
        injection hv with hA _ hc
        subst hA; subst hc
        have hll : l.length = n := by
          have := HO.out.1
          rwa [vb_length, Nat.mul_one] at this
        obtain ⟨x, hx⟩ : ∃ x, l[k]? = some x := ⟨_, List.getElem?_eq_getElem (by omega)⟩
        have hcx : wr.cell? ⟨g, k, none⟩ = some (.int .u8 (x : Int)) := by
          rw [HO.out.cellAt k (by omega), vb_get, hx]
          rfl
        have hfz := HO.out.frozenAt k
        have hx2 : x < 256 := hl x (List.mem_of_getElem? hx)
        obtain ⟨y, hy⟩ : ∃ y : Nat, IntKind.u8.wrap ((x : Int) + 1) = (y : Int) := ⟨((x + 1) % 256), by rw [IntKind.wrap_u8]; omega⟩
        have hy2 : y < 256 := by rw [IntKind.wrap_u8] at hy; omega
        have hgf := HFR.out g rfl
        have HL := Lib.hid hl
        clear hx hl hll
        go_wp2_with fail
        go_roundw
        case rel =>
          refine ⟨k + 1, by omega, by go_num, ⟨l.set k y, fun z hz => ?_, Lib.hid ?_⟩, Lib.hid (HM.out.setCell (p := ⟨g, k, none⟩) (.inl ⟨by show w.heap.size ≤ g; omega, hgf.2⟩) _)⟩
          · rcases List.mem_or_eq_of_mem_set hz with h | h
            · exact HL.out z h
            · rw [h]; exact hy2
          · have hs := (HO.out.stored k (.int .u8 (y : Int))).1
            rw [show (vb l).set k (.int .u8 (y : Int)) = vb (l.set k y) by unfold vb; rw [List.map_set]] at hs
            exact hs
        case measure => simp [intOf]; omega
      · go_wp2_with fail
        go_ret
        have ho := outc_of (w1 := w1) HFL.out (HE.out.trans HX.out) HP2.out HM2.out HM.out
        rw [HACT1.out]
        exact ⟨rfl, ho.1, ho.2⟩
end Go.Proofs.YtldgamgdbneneaaDoor

namespace Go.Proofs.YtldgamgdbneneaaDoor
set_option maxRecDepth 100000
open Go Go.RowKit

/-- The disk at d, all of whose blocks were made since w0; nothing that was there in w0 has been written. -/
structure DK (w0 w : World) (d : Nat) (F : Nat → Prop) (m : DM) : Prop where
  disk : PDisk w d F m
  low : ∀ k, F k → w0.heap.size ≤ k
  bel : Ext w0 w
theorem DK.ext {w0 w w' : World} {d : Nat} {F : Nat → Prop} {m : DM} (h : DK w0 w d F m) (k : Ext w w') : DK w0 w' d F m := ⟨h.disk.ext k, h.low, h.bel.trans k⟩
theorem DK.step {w0 w w' : World} {d : Nat} {F : Nat → Prop} {m m' : DM} (h : DK w0 w d F m) (hp : PDisk w' d (grow F w w') m') (hm : Mod F w w') : DK w0 w' d (grow F w w') m' :=
  ⟨hp, fun k hk => hk.elim (h.low k) fun h2 => Nat.le_trans h.bel.size h2.1, Below.mod h.bel hm h.bel.size h.low⟩
theorem DK.mod {w0 w w' : World} {d : Nat} {F G : Nat → Prop} {m : DM} (h : DK w0 w d F m) (hm : Mod G w w') (hG : ∀ k, F k → ¬ G k) (hl : ∀ k, G k → w0.heap.size ≤ k) : DK w0 w' d F m :=
  ⟨h.disk.mod hm hG, h.low, Below.mod h.bel hm h.bel.size hl⟩
theorem DK.fresh {w0 w : World} {d : Nat} {F : Nat → Prop} {m : DM} (h : DK w0 w d F m) {w' : World} {A : Option Addr} {n c : Nat} {e sz : Nat} {xs : List Value} (ho : w'.ownsRow w.heap.size e sz (.slice A n c) n xs) : Off F A := fun p hp hf => by
  subst hp
  have := (ho.lt p.block rfl).1
  have := h.disk.lt _ hf
  omega
/-- Values that came in lie in none of the disk's blocks. -/
theorem DK.vs {w0 w : World} {d : Nat} {F : Nat → Prop} {m : DM} (h : DK w0 w d F m) {A : Option Addr} {n c : Nat} {vs : List Value} (hv : Vs w0 w0.heap.size A n c vs) : 0 < n → Off F A := fun hn p hp hf => by
  obtain ⟨g, o, e, hg, _⟩ := hv.rd hn
  rw [e] at hp
  injection hp with hp
  subst hp
  have := h.low _ hf
  have hg' : g < w0.heap.size := hg
  have : w0.heap.size ≤ g := this
  omega
/-- What was there in w0 lies in none of the disk's blocks. -/
theorem DK.old {w0 w : World} {d : Nat} {F : Nat → Prop} {m : DM} (h : DK w0 w d F m) {A : Option Addr} (hA : ∀ p, A = some p → p.block < w0.heap.size) : Off F A := fun p hp hf => by
  have := hA p hp
  have := h.low _ hf
  omega
theorem Act5.sector (n : Int) (w : World) (B : Nat) (hn : (Lit.int .i64 n).wf = true) : ({ num := n } : Act5).Ok w B :=
  ⟨by show (0 : Nat) < 256; omega, rfl, hn, ⟨rfl, Nat.le_refl _, by show (0 : Nat) ≤ 9223372036854775807; omega, Rd.nil_, fun _ => rfl⟩, ⟨rfl, Nat.le_refl _, by show (0 : Nat) ≤ 9223372036854775807; omega, fun h => absurd h (by show ¬ (0 < 0); omega), fun _ => rfl⟩⟩
theorem rep_of (x : Nat) (hx : x < 256) : actB (x : Int) [] = List.replicate 64 x := by
  unfold actB
  rw [if_pos rfl]
  congr 1
  omega
theorem nat_wf (x : Nat) (hx : x < 256) : (Lit.int .i64 (x : Int)).wf = true := by
  have h1 : (IntKind.i64.min : Int) ≤ (x : Int) := by rw [show (IntKind.i64.min : Int) = -9223372036854775808 by decide]; omega
  have h2 : (x : Int) ≤ IntKind.i64.max := by rw [IntKind.max_i64]; omega
  show (decide (IntKind.i64.min ≤ (x : Int)) && decide ((x : Int) ≤ IntKind.i64.max)) = true
  rw [decide_eq_true h1, decide_eq_true h2]
  rfl
/-- What Sector makes of a number below 256. -/
theorem sector_n (x : Nat) (hx : x < 256) (w : World) :
    Calls Tryd.prog 62 #[.agg #[.int .u8 0, .int .i64 0, .int .i64 (x : Int), .slice none 0 0, .slice none 0 0]] w fun e w' => ∃ A n c, e = .returned (.slice A n c) ∧ w'.ownsRow w.heap.size 5 1 (.slice A n c) n (vb (List.replicate 64 x)) ∧ Ext w w' := by
  have h := sector_of { num := (x : Int) } w (Act5.sector _ _ _ (nat_wf x hx)) (show (0 : Nat) ≤ 140737488355328 by omega)
  rw [rep_of x hx] at h
  exact h

end Go.Proofs.YtldgamgdbneneaaDoor

namespace Go.Proofs.YtldgamgdbneneaaDoor
open Go Go.RowKit

def ga1 : DM := ((DM.new 156).flip 30 1).2
theorem ga_flip : ((DM.new 156).flip 30 1).1 = 0 := by decide +kernel
theorem ga_none : hurtsIn (DM.new 156).hurt 0 156 = [] := by decide +kernel
theorem ga_hurts : hurtsIn ga1.hurt 0 156 = [30] := by decide +kernel
theorem ga_size : ga1.size = 156 := by decide +kernel
theorem ga_any1 : anyIn ga1.hurt (firstS 4 1) (wid 4) = true := by decide +kernel
theorem ga_bad1 : ga1.badB 0 4 1 = true := by decide +kernel
theorem ga_any0 : anyIn ga1.hurt (firstS 4 0) (wid 4) = false := by decide +kernel
theorem ga_p1 : placeG 156 0 4 1 = 0 := by decide +kernel
theorem ga_p0 : placeG 156 0 4 0 = 0 := by decide +kernel
theorem ga_p48 : placeG 156 0 4 48 = 2 := by decide +kernel
theorem hurt_sl {w : World} {d : Nat} {F : Nat → Prop} {m : DM} (h : PDisk w d F m) (hsz : m.size ≤ 1024) {l : List Int} (hl : hurtsIn m.hurt 0 m.size = l) :
    Calls Tryd.prog 11 #[.pointer (some ⟨d, 0, none⟩)] w fun e w' => ∃ A c, e = .returned (.slice A l.length c) ∧ (∀ x, l = [x] → ∃ g, A = some ⟨g, 0, none⟩ ∧ 1 ≤ c ∧ w'.cell? ⟨g, 0, none⟩ = some (.int .i64 x)) ∧ Ext w w' :=
  (hurt_pd h hsz).mono fun e w' ⟨v, he, ho, hx⟩ => by
    rw [hl] at ho
    obtain ⟨A, c, rfl, hc, _⟩ := own_form ho
    refine ⟨A, c, he, fun x hx => ?_, hx⟩
    subst hx
    obtain ⟨g, c', e⟩ := ownsRow_succ ho
    injection e with e1 _ e3
    subst e1; subst e3
    exact ⟨g, rfl, hc, (ho.cells rfl 0 _ rfl).trans rfl⟩
theorem gnew_156 (w : World) : Calls Tryd.prog 7 #[.int .i64 156] w fun e w' => ∃ d, e = .returned (.tuple #[.pointer (some ⟨d, 0, none⟩), .int .i64 0]) ∧ PDisk w' d (fun k => w.heap.size ≤ k ∧ k < w'.heap.size) (DM.new 156) ∧ Ext w w' := new_pdk 156 w (by omega) (by omega)

set_option maxRecDepth 100000 in
set_option maxHeartbeats 1600000 in
theorem gawake_any (w : World) (hL : LaidF w) : Calls Tryd.prog 12 #[] w fun e w' => e = .returned (.bool true) ∧ Ext w w' := by
  have HL := Lib.hid hL
  clear hL
  go_enter Tryd.func12, Tryd.ntmps12
  go_wp2_with fail
  refine (gnew_156 w).mono ?_
  rintro e w1 ⟨d, rfl, hp, hx⟩
  have HD : Hid (DK w w1 d _ (DM.new 156)) := Lib.hid ⟨hp, fun k hk => hk.1, hx⟩
  clear hp hx
  go_wp2_with fail
  refine (hurt_sl (l := []) HD.out.disk (by show 156 ≤ 1024; omega) ga_none).mono ?_
  rintro e w2 ⟨A, c, rfl, _, hx⟩
  have HD := Lib.hid (HD.out.ext hx)
  clear hx
  go_wp2_with fail
  refine (flip_pd HD.out.disk 30 1 (by omega)).mono ?_
  unfold Outc
  rw [ga_flip]
  rintro e w3 ⟨rfl, hp, hm⟩
  have HD : Hid (DK w w3 d _ ga1) := Lib.hid (HD.out.step hp hm)
  clear hp hm
  go_wp2_with fail
  refine (hurt_sl (l := [30]) HD.out.disk (by rw [ga_size]; omega) (by rw [ga_size]; exact ga_hurts)).mono ?_
  rintro e w4 ⟨A4, c4, rfl, hc, hx⟩
  obtain ⟨g, rfl, hc1, hc4⟩ := hc 30 rfl
  have HC := Lib.hid hc4
  have HD := Lib.hid (HD.out.ext hx)
  clear hx hc hc4
  go_wp2_with fail
  refine (place_yes HD.out.disk (HL.out.ext HD.out.bel) 0 4 1 (by rw [ga_size]; exact ga_p1)).mono ?_
  rw [ga_any1, ga_bad1]
  rintro e w5 ⟨rfl, hx⟩
  have HC := Lib.hid (ext_of_cell hx HC.out)
  have HD := Lib.hid (HD.out.ext hx)
  clear hx
  go_wp2_with fail
  refine (place_yes HD.out.disk (HL.out.ext HD.out.bel) 0 4 0 (by rw [ga_size]; exact ga_p0)).mono ?_
  rw [ga_any0]
  rintro e w6 ⟨rfl, hx⟩
  have HC := Lib.hid (ext_of_cell hx HC.out)
  have HD := Lib.hid (HD.out.ext hx)
  clear hx
  go_wp2_with fail
  have hpe := place_err (Sized.of HD.out.disk) (HL.out.ext HD.out.bel).a.t 0 4 48 (by rw [ga_size, ga_p48]; omega)
  rw [ga_size, ga_p48] at hpe
  refine hpe.mono ?_
  rintro e w7 ⟨rfl, hx⟩
  have hc4 := ext_of_cell hx HC.out
  have HD := Lib.hid (HD.out.ext hx)
  clear hx
  go_wp2_with fail
  go_ret
  exact ⟨rfl, HD.out.bel⟩
end Go.Proofs.YtldgamgdbneneaaDoor

namespace Go.Proofs.YtldgamgdbneneaaDoor
set_option maxRecDepth 100000
open Go Go.RowKit

/-- An act that came in, at a disk made since. -/
theorem do_dk {w0 w : World} {d : Nat} {F : Nat → Prop} {m : DM} (h : DK w0 w d F m) (a : Act5) (ha : a.Ok w0 w0.heap.size) (hn : a.bn ≤ 200) (hfew : m.waits.length ≤ 1000) :
    Calls Tryd.prog 38 #[.pointer (some ⟨d, 0, none⟩), .agg #[.int .u8 (a.kind : Int), .int .i64 a.sec, .int .i64 a.num, .slice a.bA a.bn a.bc, .slice a.kA a.kn a.kc]] w fun e w' =>
      e = .returned (.int .i64 (m.act a.kind a.sec a.num a.bl a.kl).1) ∧ DK w0 w' d (grow F w w') (m.act a.kind a.sec a.num a.bl a.kl).2 := by
  have hd := do_of h.disk a ((ha.below h.bel).more h.bel.size) (h.vs ha.keep) (by omega) (by omega)
  unfold actV at hd
  exact hd.mono fun e w' ⟨h1, h2, h3⟩ => ⟨h1, h.step h2 h3⟩

/-- What Great answers. -/
def GreatE (n : Nat) (l : List Act5) (w : World) (e : Ending) (w' : World) : Prop := ∃ b : Bool, e = .returned (.bool b) ∧ w = w' ∧ (b = false → n ≤ 120 ∧ ∀ a ∈ l, a.bn ≤ 200 ∧ a.kn ≤ 100)

set_option maxRecDepth 100000 in
set_option maxHeartbeats 1600000 in
theorem great_of {w : World} {B : Nat} (A : Option Addr) (n c : Nat) (l : List Act5) (h : Acts w B A n c l) :
    Calls Tryd.prog 37 #[.slice A n c] w (GreatE n l w) := by
  have HA := Lib.hid h
  have hn := Nat.zero_le n
  clear h
  go_enter Tryd.func37, Tryd.ntmps37
  by_cases hn120 : 120 < n
  · go_wp2_with fail
    go_ret
    exact ⟨true, rfl, rfl, fun h => by cases h⟩
  go_wp2_with fail
  go_loopw [3] (fun i wr => ∃ k : Nat, k ≤ n ∧ i = .int .i64 k ∧ wr = w ∧ Hid (∀ a ∈ l.take k, a.bn ≤ 200 ∧ a.kn ≤ 100)) (fun i _ => n - (intOf i).toNat)
  case atStart => exact ⟨0, Nat.zero_le _, rfl, rfl, Lib.hid fun a ha => by simp at ha⟩
  case round =>
    obtain ⟨k, hkn, rfl, rfl, HT⟩ := hrel
    by_cases hlt : k < n
    · obtain ⟨g, o, a, rfl, hg, ha, hok, h0, h1, h2, h3, h4⟩ := HA.out.at_ hlt
      have HAL := Lib.hid ha
      by_cases hb : 200 < a.bn
      · clear ha hok
        go_wp2_with fail
        go_ret
        exact ⟨true, rfl, rfl, fun h => by cases h⟩
      · by_cases hk : 100 < a.kn
        · clear ha hok
          go_wp2_with fail
          go_ret
          exact ⟨true, rfl, rfl, fun h => by cases h⟩
        · clear ha hok
          go_wp2_with fail
          go_roundw
          case rel => exact ⟨k + 1, by omega, by go_num, by first | rfl | trivial, Lib.hid fun b hb' => by
            rw [List.take_add_one, HAL.out] at hb'
            rcases List.mem_append.1 hb' with h | h
            · exact HT.out b h
            · simp only [Option.toList_some, List.mem_singleton] at h
              subst h
              exact ⟨by omega, by omega⟩⟩
          case measure => simp [intOf]; omega
    · go_wp2_with fail
      go_ret
      refine ⟨false, rfl, rfl, fun _ => ⟨by omega, fun a ha => HT.out a ?_⟩⟩
      rw [List.take_of_length_le (by have := HA.out.len; omega)]
      exact ha
end Go.Proofs.YtldgamgdbneneaaDoor
