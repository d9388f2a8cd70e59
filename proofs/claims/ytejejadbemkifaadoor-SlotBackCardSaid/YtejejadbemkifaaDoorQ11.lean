/-
  The contract of slot's Print.
  The contracts of the document's MayOp and May of entries.
  Append of a slice that came in, nil or not, onto a row of the call's own.
  The contract of the document's own Text.
  The contracts of the document's Bytes and Print of entries.
  The contract of the document's Print of a record's body.
  Values stored one behind the other into a block: its row then; what lies elsewhere stays.
-/
import Derived.Test.YtejejadbemkifaaDoorQ01
import Derived.Test.YtejejadbemkifaaDoorQ06
import Derived.Test.YtejejadbemkifaaDoorQ08
import Derived.Test.YtejejadbemkifaaDoorQ10
import Derived.Deep.DeepCutAuto
namespace Go.Proofs.YtejejadbemkifaaDoor
set_option maxRecDepth 100000
open Go Go.RowKit

theorem By.none_ (w : World) : By w none 0 0 [] := ⟨rfl, Nat.le_refl _, by omega, Rd.nil_, fun _ => rfl⟩
theorem idx_three (a b c : Int) (w : World) : (Instr.index 39 (.agg #[.int .i64 a, .int .i64 b, .int .i64 c]) (.int .i64 0)).run Tryd.prog w = .ok (.int .i64 a) w ∧ (Instr.index 39 (.agg #[.int .i64 a, .int .i64 b, .int .i64 c]) (.int .i64 1)).run Tryd.prog w = .ok (.int .i64 b) w ∧ (Instr.index 39 (.agg #[.int .i64 a, .int .i64 b, .int .i64 c]) (.int .i64 2)).run Tryd.prog w = .ok (.int .i64 c) w := by
  refine ⟨?_, ?_, ?_⟩ <;> kernel_rfl
theorem sput6 (n : Nat) (w : World) (hL : Laid w) (hn : n ≤ 1099511627776) :
    Calls Tryd.prog 13 #[.int .i64 6, .int .i64 (n : Int)] w fun e w' => ∃ A' c', e = .returned (.tuple #[.slice A' 6 c', .int .i64 0]) ∧ By w' A' 6 c' (digs 6 n) ∧ Ext w w' := put_by 6 n w hL (fits_six hn)
theorem sput1 (n : Nat) (w : World) (hL : Laid w) (hn : n < 256) :
    Calls Tryd.prog 13 #[.int .i64 1, .int .i64 (n : Int)] w fun e w' => ∃ A' c', e = .returned (.tuple #[.slice A' 1 c', .int .i64 0]) ∧ By w' A' 1 c' [n] ∧ Ext w w' := by
  have h := put_by 1 n w hL (fits_byte hn)
  rw [digs_byte hn] at h
  exact h
theorem sjoin1 {A1 A2 : Option Addr} {c1 c2 : Nat} {l2 : List Nat} (w : World) (h1 : By w A1 0 c1 []) (h2 : By w A2 6 c2 l2) :
    Calls Tryd.prog 14 #[.slice (some ⟨w.heap.size, 0, none⟩) 2 2] (w.alloc (.cells #[.slice A1 0 c1, .slice A2 6 c2] 24)) fun e w' => ∃ A' c', e = .returned (.slice A' 6 c') ∧ By w' A' 6 c' l2 ∧ Ext w w' := join2_by w h1 h2 (by omega)
theorem sjoin2 {A1 A2 : Option Addr} {c1 c2 : Nat} {l1 l2 : List Nat} (w : World) (h1 : By w A1 6 c1 l1) (h2 : By w A2 1 c2 l2) :
    Calls Tryd.prog 14 #[.slice (some ⟨w.heap.size, 0, none⟩) 2 2] (w.alloc (.cells #[.slice A1 6 c1, .slice A2 1 c2] 24)) fun e w' => ∃ A' c', e = .returned (.slice A' 7 c') ∧ By w' A' 7 c' (l1 ++ l2) ∧ Ext w w' := join2_by w h1 h2 (by omega)
theorem sjoin3 {A1 A2 : Option Addr} {c1 c2 : Nat} {l1 l2 : List Nat} (w : World) (h1 : By w A1 7 c1 l1) (h2 : By w A2 1 c2 l2) :
    Calls Tryd.prog 14 #[.slice (some ⟨w.heap.size, 0, none⟩) 2 2] (w.alloc (.cells #[.slice A1 7 c1, .slice A2 1 c2] 24)) fun e w' => ∃ A' c', e = .returned (.slice A' 8 c') ∧ By w' A' 8 c' (l1 ++ l2) ∧ Ext w w' := join2_by w h1 h2 (by omega)
set_option maxRecDepth 100000 in
set_option maxHeartbeats 600000 in
theorem sprint_yes (x y h : Nat) (w : World) (hL : LaidS w) (hr : recB x y h = true) :
    Calls Tryd.prog 6 #[.agg #[.int .i64 (x : Int), .int .i64 (y : Int)], .int .i64 (h : Int)] w fun e w' => ∃ A' c', e = .returned (.tuple #[.slice A' 8 c', .int .i64 0]) ∧ By w' A' 8 c' (recL x y h) ∧ Ext w w' := by
  have hrr := recB_iff.1 hr
  have hE := (Ext.refl w).alloc (.cells #[.int .i64 (x : Int), .int .i64 (y : Int)] 23)
  have hrow := heap_alloc_new w (.cells #[.int .i64 (x : Int), .int .i64 (y : Int)] 23)
  have HB := Lib.hid (show x ≤ 1099511627776 ∧ y < 256 ∧ h < 256 by omega)
  have HL := Lib.hid (hL.ext hE)
  have HM := Lib.hid (fun V hV => may_of (x : Int) (y : Int) (h : Int) V hV)
  rw [hr] at HM
  have HR := Lib.hid hrow
  have HE := Lib.hid hE
  have i0 := fun w => (idx_three (x : Int) (y : Int) (h : Int) w).1
  have i1 := fun w => (idx_three (x : Int) (y : Int) (h : Int) w).2.1
  have i2 := fun w => (idx_three (x : Int) (y : Int) (h : Int) w).2.2
  have HRL : Hid (recL (x : Int) (y : Int) (h : Int) = digs 6 x ++ [y] ++ [h]) := Lib.hid (by unfold recL; rw [Int.toNat_natCast, Int.toNat_natCast, Int.toNat_natCast])
  clear hrr hr hE hL hrow
  go_enter Tryd.func6, Tryd.ntmps6
  go_upto_region 1 with (fail)
  generalize (w.alloc (.cells #[.int .i64 (x : Int), .int .i64 (y : Int)] 23)) = w0 at *
  generalize hg : w.heap.size = g at *
  have HG := Lib.hid hg
  clear hg
  have b0 := cell_of_row w0 g 0 _ _ _ HR.out
  have b1 := cell_of_row w0 g 1 _ _ _ HR.out
  go_wp2_with fail
  refine (HM.out w0 HL.out.o).mono ?_
  rintro e w1 ⟨rfl, hx⟩
  have HE := Lib.hid (HE.out.trans hx)
  have HL := Lib.hid (HL.out.ext hx)
  have HR := Lib.hid (keep_row hx HR.out)
  clear hx b0 b1
  have b0 := cell_of_row w1 g 0 _ _ _ HR.out
  have b1 := cell_of_row w1 g 1 _ _ _ HR.out
  obtain ⟨t0, t1, t2⟩ := HL.out.t
  go_wp2_with fail
  refine wp_loop_rounds 4 ?_
  rw [rounds_succ]
  go_wp2_with fail
  refine (sput6 x _ HL.out.o HB.out.1).mono ?_
  rintro e w2 ⟨A1, c1, rfl, hb, hx⟩
  have HE := Lib.hid (HE.out.trans hx)
  have HL := Lib.hid (HL.out.ext hx)
  have HBy := Lib.hid hb
  clear hx hb b0 b1 t0 t1 t2
  go_wp2_with fail
  refine (sjoin1 w2 (By.none_ w2) HBy.out).mono ?_
  rintro e w3 ⟨A2, c2, rfl, hb, hx⟩
  have HE := Lib.hid (HE.out.trans hx)
  have HL := Lib.hid (HL.out.ext hx)
  have HBy := Lib.hid hb
  clear hx hb
  obtain ⟨t0, t1, t2⟩ := HL.out.t
  go_wp2_with fail
  rw [rounds_succ]
  go_wp2_with fail
  refine (sput1 y _ HL.out.o HB.out.2.1).mono ?_
  rintro e w4 ⟨A3, c3, rfl, hb, hx⟩
  have HE := Lib.hid (HE.out.trans hx)
  have HL := Lib.hid (HL.out.ext hx)
  have HBy := Lib.hid (HBy.out.ext hx)
  have HB2 := Lib.hid hb
  clear hx hb t0 t1 t2
  go_wp2_with fail
  refine (sjoin2 w4 HBy.out HB2.out).mono ?_
  rintro e w5 ⟨A4, c4, rfl, hb, hx⟩
  have HE := Lib.hid (HE.out.trans hx)
  have HL := Lib.hid (HL.out.ext hx)
  have HBy := Lib.hid hb
  clear hx hb HB2
  obtain ⟨t0, t1, t2⟩ := HL.out.t
  go_wp2_with fail
  rw [rounds_succ]
  go_wp2_with fail
  refine (sput1 h _ HL.out.o HB.out.2.2).mono ?_
  rintro e w6 ⟨A5, c5, rfl, hb, hx⟩
  have HE := Lib.hid (HE.out.trans hx)
  have HL := Lib.hid (HL.out.ext hx)
  have HBy := Lib.hid (HBy.out.ext hx)
  have HB2 := Lib.hid hb
  clear hx hb t0 t1 t2
  go_wp2_with fail
  refine (sjoin3 w6 HBy.out HB2.out).mono ?_
  rintro e w7 ⟨A6, c6, rfl, hb, hx⟩
  have HE := Lib.hid (HE.out.trans hx)
  have HBy := Lib.hid hb
  clear hx hb HB2
  go_wp2_with fail
  rw [rounds_succ]
  go_wp2_with fail
  go_ret2
  exact ⟨A6, c6, rfl, HRL.out ▸ HBy.out, HE.out⟩
set_option maxRecDepth 100000 in
theorem sprint_no (x y h : Int) (w : World) (hL : LaidS w) (hr : recB x y h = false) :
    Calls Tryd.prog 6 #[.agg #[.int .i64 x, .int .i64 y], .int .i64 h] w fun e w' => e = .returned (.tuple #[.slice none 0 0, .int .i64 2]) ∧ Ext w w' := by
  have hE := (Ext.refl w).alloc (.cells #[.int .i64 x, .int .i64 y] 23)
  have HM := Lib.hid (may_of x y h _ (hL.o.ext hE))
  rw [hr] at HM
  have HE := Lib.hid hE
  clear hr hE hL
  go_enter Tryd.func6, Tryd.ntmps6
  go_wp2_with fail
  refine HM.out.mono ?_
  rintro e w1 ⟨rfl, hx⟩
  have HE := Lib.hid (HE.out.trans hx)
  clear hx
  go_wp2_with fail
  go_ret2
  exact ⟨rfl, HE.out⟩
/-- Print in one form. -/
theorem sprint_of (x y h : Int) (w : World) (hL : LaidS w) :
    Calls Tryd.prog 6 #[.agg #[.int .i64 x, .int .i64 y], .int .i64 h] w fun e w' => ∃ A' c', e = .returned (.tuple #[.slice A' (rcL x y h).length c', .int .i64 (rcE x y h)]) ∧ By w' A' (rcL x y h).length c' (rcL x y h) ∧ Ext w w' := by
  cases hr : recB x y h with
  | true =>
    rw [rcL_yes hr, rcE_yes hr, recL_length]
    have hrr := recB_iff.1 hr
    obtain ⟨a, rfl⟩ := Int.eq_ofNat_of_zero_le (show 0 ≤ x by omega)
    obtain ⟨b, rfl⟩ := Int.eq_ofNat_of_zero_le (show 0 ≤ y by omega)
    obtain ⟨c, rfl⟩ := Int.eq_ofNat_of_zero_le (show 0 ≤ h by omega)
    exact sprint_yes a b c w hL hr
  | false =>
    rw [rcL_no hr, rcE_no hr]
    exact (sprint_no x y h w hL hr).mono fun e w' ⟨he, hx⟩ => ⟨none, 0, he, By.none_ w', hx⟩
end Go.Proofs.YtejejadbemkifaaDoor

namespace Go.Proofs.YtejejadbemkifaaDoor
set_option maxRecDepth 100000
open Go Go.RowKit

theorem opOk_part (k : Nat) (key old val : ByteArray) (h : ¬ ((key.size : Int) < 1) ∧ ¬ (8 < (key.size : Int)) ∧ ¬ (16 < (old.size : Int)) ∧ ¬ (16 < (val.size : Int))) :
    opOk k key old val = if k = 1 ∨ k = 3 then decide (old.size = 0) && decide (val.size = 0) else if k = 2 then decide (old.size = 0) else decide (k = 4) := by
  rw [Bool.eq_iff_iff, opOk_iff]
  by_cases h1 : k = 1 ∨ k = 3
  · rw [if_pos h1, Bool.and_eq_true, decide_eq_true_iff, decide_eq_true_iff]
    omega
  · rw [if_neg h1]
    by_cases h2 : k = 2
    · rw [if_pos h2, decide_eq_true_iff]
      omega
    · rw [if_neg h2, decide_eq_true_iff]
      omega
theorem opOk_far (k : Nat) (key old val : ByteArray) (h : ((key.size : Int) < 1) ∨ (8 < (key.size : Int)) ∨ (16 < (old.size : Int)) ∨ (16 < (val.size : Int))) : opOk k key old val = false := by
  rw [Bool.eq_false_iff]
  intro hk
  have := opOk_iff.1 hk
  omega
end Go.Proofs.YtejejadbemkifaaDoor

namespace Go.Proofs.YtejejadbemkifaaDoor
set_option maxRecDepth 100000
open Go Go.RowKit

theorem wpList_append_by {P : Program} {w : World} {ops : Array Oper} {rest : List Oper} {o : Oper} {a : Act} {Q : Exit → Act → World → Prop} (hgd : o.guard = none) (s x : Operand) (t : TypeId)
    (ho : o.op = .call { callee := .builtin .append, args := #[s, x], argTypes := #[t, t] })
    (base : Nat) (e : TypeId) (i : TypeInfo) (ht : P.underlying t = some (.slice e)) (hi : P.info? e = some i) (hz : i.zero = some (.int .u8 0))
    (hsize : i.size = 1) (hby : i.bytes = 1)
    (v : Value) (n : Nat) (xs : List Value) (hs : a.eval s = v) (hown : w.ownsRow base e 1 v n xs)
    (A : Option Addr) (m c : Nat) (l : List Nat) (hx : a.eval x = .slice A m c) (hb : By w A m c l)
    (hbytes : n + m ≤ 140737488355328) (hbase : base ≤ w.heap.size)
    (h : ∀ v' w', w'.ownsRow base e 1 v' (n + m) (xs ++ vb l) → w.grownBy w' v.ownBlock → wpList P ops Q rest (a.put o.dst v') w') : wpList P ops Q (o :: rest) a w := by
  cases A with
  | none =>
    obtain rfl := Bs.nil_ hb rfl
    have hm : m = 0 := by have := hb.cap; omega
    subst hm
    have hl : l = [] := List.eq_nil_of_length_eq_zero hb.len
    subst hl
    refine wpList_append_own_none hgd s x t ho base e i 1 ht hi v n xs hs hown hx ?_
    exact h v w (by simpa [vb] using hown) (World.grownBy.refl _ _)
  | some ad =>
    refine wpList_append_own w hgd s x t ho base e i (.int .u8 0) 1 1 ht hi hz hsize hby rfl (by decide) v n xs hs hown ad m c (vb l) hx (by rw [vb_length, hb.len]; omega) ?_ (vb_one l) (by unfold maxLen; omega) (by omega) hbase fun v' w' h1 h2 _ => h v' w' h1 h2
    intro j u hj
    rw [vb_get] at hj
    obtain ⟨y, hy, rfl⟩ := Option.map_eq_some_iff.1 hj
    have hjl : j < l.length := (List.getElem?_eq_some_iff.1 hy).1
    obtain ⟨g, o', z, hA, _, hz', _, hc⟩ := hb.rd.at_ hjl
    injection hA with hA
    subst hA
    rw [hy] at hz'
    injection hz' with hz'
    subst hz'
    rw [Addr.add_lit, hc]
/-- Behind an append onto a row that the call has made since w0. -/
theorem app_step {w0 w1 w2 : World} {v v2 : Value} {e n m : Nat} {xs : List Value} {l1 l2 : List Nat} (hx : Ext w0 w1) (hown : w1.ownsRow w0.heap.size e 1 v n xs) (hg : w1.grownBy w2 v.ownBlock)
    (h2 : w2.ownsRow w0.heap.size e 1 v2 m (vb l1 ++ vb l2)) (hb1 : ∀ b ∈ l1, b < 256) (hb2 : ∀ b ∈ l2, b < 256) :
    Ext w0 w2 ∧ ∃ A c, v2 = .slice A m c ∧ By w2 A m c (l1 ++ l2) ∧ w2.ownsRow w0.heap.size e 1 (.slice A m c) m (vb (l1 ++ l2)) := by
  refine ⟨Below.grown hx hg (Ext.size hx) (fun g hg' => (hown.lt g hg').1), ?_⟩
  obtain ⟨A, c, rfl, _, _⟩ := own_form h2
  rw [← vb_append] at h2
  exact ⟨A, c, rfl, Bs.of_own h2 (by intro b hb; rcases List.mem_append.1 hb with h | h; exact hb1 b h; exact hb2 b h), h2⟩
end Go.Proofs.YtejejadbemkifaaDoor

namespace Go.Proofs.YtejejadbemkifaaDoor
set_option maxRecDepth 100000
open Go Go.RowKit

theorem bl_step (s : ByteArray) (k : Nat) (h : k < s.size) : (bl s).take (k + 1) = (bl s).take k ++ [s[k].toNat] := by
  have e : (bl s)[k]? = some s[k].toNat := by
    unfold bl
    rw [List.getElem?_map, Array.getElem?_toList, Array.getElem?_eq_getElem h]
    rfl
  rw [List.take_add_one, e]
  rfl

theorem rtext_step {w wr w1 : World} {s : ByteArray} {k : Nat} {v v1 : Value} (hk : k < s.size) (hown : wr.ownsRow w.heap.size 5 1 v (k + 1) (vb (s.size :: (bl s).take k))) (hbel : Ext w wr)
    (hown1 : w1.ownsRow w.heap.size 5 1 v1 (k + 1 + 1) (vb (s.size :: (bl s).take k) ++ [.int .u8 (s[k].toNat : Int)])) (hg : (wr.alloc (.cells #[.int .u8 (s[k].toNat : Int)] 5)).grownBy w1 v.ownBlock) :
    w1.ownsRow w.heap.size 5 1 v1 (k + 1 + 1) (vb (s.size :: (bl s).take (k + 1))) ∧ Ext w w1 := by
  refine ⟨?_, ?_⟩
  · rw [bl_step s k hk]
    have e : vb (s.size :: ((bl s).take k ++ [s[k].toNat])) = vb (s.size :: (bl s).take k) ++ [.int .u8 (s[k].toNat : Int)] := by simp [vb]
    rw [e]
    exact hown1
  · refine Below.grown (Ext.alloc hbel _) hg (Nat.le_trans (Ext.size hbel) (by simp)) ?_
    intro g hg'
    exact (hown.lt g hg').1

end Go.Proofs.YtejejadbemkifaaDoor

namespace Go.Proofs.YtejejadbemkifaaDoor
set_option maxRecDepth 100000
open Go Go.RowKit

set_option maxRecDepth 100000 in
theorem rballotE (x y : Int) (w : World) :
    Calls Tryd.prog 15 #[.agg #[.int .i64 x, .int .i64 y]] w fun r w' => r = .returned (.bool (balE x y)) ∧ Ext w w' := by
  have HE := Lib.hid ((Ext.refl w).alloc (.cells #[.int .i64 x, .int .i64 y] 23))
  have hb : balE x y = (decide (1 ≤ x) && (decide (x ≤ 1099511627776) && (decide (0 ≤ y) && decide (y ≤ 6)))) := by
    rw [Bool.eq_iff_iff, balE_iff]
    simp
  rw [hb]
  clear hb
  cases h1 : decide (1 ≤ x) <;> cases h2 : decide (x ≤ 1099511627776) <;> cases h3 : decide (0 ≤ y) <;> cases h4 : decide (y ≤ 6)
  all_goals
    go_enter Tryd.func15, Tryd.ntmps15
    go_wp2_with fail
    go_ret
    exact ⟨rfl, HE.out⟩
/-- A row of the call's own that grows. -/
structure AppS (w0 w : World) (A : Option Addr) (n c : Nat) (l : List Nat) : Prop where
  own : w.ownsRow w0.heap.size 5 1 (.slice A n c) n (vb l)
  ext : Ext w0 w
  lt : ∀ b ∈ l, b < 256
theorem AppS.more {w0 w w' : World} {A : Option Addr} {n c : Nat} {l : List Nat} (h : AppS w0 w A n c l) (k : Ext w w') : AppS w0 w' A n c l := by
  refine ⟨⟨h.own.1, ?_⟩, h.ext.trans k, h.lt⟩
  rcases h.own.2 with h2 | ⟨g, cap, cur, h2, h3, h4, h5⟩
  · exact .inl h2
  · exact .inr ⟨g, cap, cur, h2, h3, heap_ext h4 k, h5⟩
theorem AppS.by_ {w0 w : World} {A : Option Addr} {n c : Nat} {l : List Nat} (h : AppS w0 w A n c l) : By w A n c l := Bs.of_own h.own h.lt
theorem AppS.next {w0 w w2 : World} {A : Option Addr} {n c m : Nat} {l l2 : List Nat} {v : Value} (h : AppS w0 w A n c l) (h2 : w2.ownsRow w0.heap.size 5 1 v m (vb l ++ vb l2)) (hg : w.grownBy w2 (Value.slice A n c).ownBlock) (hb : ∀ b ∈ l2, b < 256) :
    ∃ A' c', v = .slice A' m c' ∧ AppS w0 w2 A' m c' (l ++ l2) ∧ Mod (fun i => (Value.slice A n c).ownBlock = some i) w w2 := by
  obtain ⟨hx, A', c', rfl, hb', ho⟩ := app_step h.ext h.own hg h2 h.lt hb
  refine ⟨A', c', rfl, ⟨ho, hx, ?_⟩, ?_⟩
  · intro b hb0
    rcases List.mem_append.1 hb0 with h0 | h0
    · exact h.lt b h0
    · exact hb b h0
  · exact (Mod.refl (fun i => (Value.slice A n c).ownBlock = some i) w).grown hg fun k hk => .inl hk
theorem AppS.off {w0 w : World} {A : Option Addr} {n c g : Nat} {l : List Nat} {cs : Array Value} {t : TypeId} {fr : Nat × Nat} (h : AppS w0 w A n c l) (hr : w.heap[g]? = some (.cells cs t fr)) (ht : t ≠ 5) : ¬ (Value.slice A n c).ownBlock = some g := by
  intro e
  rcases h.own.2 with ⟨h2, _⟩ | ⟨g', cap, cur, h2, h3, h4, h5⟩
  · rw [h2] at e
    cases e
  · rw [h2] at e
    have e : g' = g := Option.some.inj e
    subst e
    rw [hr] at h4
    injection h4 with h4
    injection h4 with _ h4 _
    exact ht h4
theorem AppS.start {w : World} (l : List Nat) (n : Nat) (hl : l.length = n) (hb : ∀ b ∈ l, b < 256) (hm : l.length ≤ 1000) (cs : Array Value) (hcs : cs = (vb l).toArray) : AppS w (w.alloc (.cells cs 5)) (some ⟨w.heap.size, 0, none⟩) n n l := by
  subst hcs
  subst hl
  have h := World.ownsRow_lit (base := w.heap.size) (e := 5) (size := 1) w (vb l).toArray l.length (Nat.le_refl _) (by unfold maxLen; omega) (by simp [vb_length])
  exact ⟨by simpa using h, (Ext.refl w).alloc _, hb⟩
end Go.Proofs.YtejejadbemkifaaDoor

namespace Go.Proofs.YtejejadbemkifaaDoor
set_option maxRecDepth 100000
open Go Go.RowKit

set_option maxRecDepth 100000 in
set_option maxHeartbeats 600000 in
theorem rsprint_yes (x y h : Nat) (w : World) (hr : recB x y h = true) :
    Calls Tryd.prog 7 #[.agg #[.int .i64 (x : Int), .int .i64 (y : Int)], .int .i64 (h : Int)] w fun e w' => ∃ A' c', e = .returned (.tuple #[.slice A' 8 c', .int .i64 0]) ∧ By w' A' 8 c' (recL x y h) ∧ Ext w w' := by
  obtain ⟨i0, hi, hz0, hz1, hz2⟩ := info_parts byte_info
  have hrr := recB_iff.1 hr
  have hE := (Ext.refl w).alloc (.cells #[.int .i64 (x : Int), .int .i64 (y : Int)] 23)
  have HR := Lib.hid (heap_alloc_new w (.cells #[.int .i64 (x : Int), .int .i64 (y : Int)] 23))
  have HBL := Lib.hid (fun V => rballotE (x : Int) (y : Int) V)
  rw [balE_iff.2 hrr.1] at HBL
  have HB := Lib.hid (show x ≤ 1099511627776 ∧ y < 256 ∧ h < 256 by omega)
  have HE := Lib.hid hE
  have h1 : decide ((h : Int) < 0) = false := decide_eq_false (by omega)
  have h2 : decide (1 < (h : Int)) = false := decide_eq_false (by omega)
  have HRL : Hid (recL (x : Int) (y : Int) (h : Int) = digs 6 x ++ [y, h]) := Lib.hid (by unfold recL; rw [Int.toNat_natCast, Int.toNat_natCast, Int.toNat_natCast, List.append_assoc]; rfl)
  have hyn : y < 256 := HB.out.2.1
  have hhn : h < 256 := HB.out.2.2
  clear hrr hr hE
  go_enter Tryd.func7, Tryd.ntmps7
  go_upto_region 1 with (fail)
  generalize (w.alloc (.cells #[.int .i64 (x : Int), .int .i64 (y : Int)] 23)) = w0 at *
  generalize hg : w.heap.size = g at *
  have HG := Lib.hid hg
  clear hg
  have b0 := cell_of_row w0 g 0 _ _ _ HR.out
  have b1 := cell_of_row w0 g 1 _ _ _ HR.out
  go_wp2_with fail
  refine (HBL.out _).mono ?_
  rintro e w1 ⟨rfl, hx⟩
  have HE := Lib.hid (HE.out.trans hx)
  have HR := Lib.hid (keep_row hx HR.out)
  clear hx b0 b1
  have b0 := cell_of_row w1 g 0 _ _ _ HR.out
  have b1 := cell_of_row w1 g 1 _ _ _ HR.out
  go_wp2_with fail
  refine (rput_yes 6 x _ (fits_six HB.out.1)).mono ?_
  rintro r w3 ⟨A3, k3, rfl, hown, hx⟩
  have hx : Ext w1 w3 := hx
  have HA : Hid (AppS w1 w3 A3 6 k3 (digs 6 x)) := Lib.hid ⟨hown, hx, digs_lt 6 x⟩
  have HR := Lib.hid (keep_row hx HR.out)
  clear hown hx b0 b1
  have b0 := cell_of_row w3 g 0 _ _ _ HR.out
  have b1 := cell_of_row w3 g 1 _ _ _ HR.out
  have hx := (Ext.refl w3).alloc (.cells #[.int .u8 (y : Int), .int .u8 (h : Int)] 5)
  have HA := Lib.hid (HA.out.more hx)
  have HLIT := Lib.hid (By.lit w3 [y, h] 5 (by have := HB.out; intro b hb; simp at hb; omega) (by simp) (#[.int .u8 y, .int .u8 h]) rfl)
  have hsz := HA.out.ext.size
  clear hx
  go_wp2_with (at_builtin; refine wpList_append_by rfl _ _ 24 rfl w1.heap.size 5 i0 Tryd.underlying24 hi hz0 hz1 hz2 _ 6 (vb (digs 6 x)) rfl HA.out.own _ 2 _ [y, h] rfl HLIT.out (by omega) hsz ?_)
  intro v4 w4 hown hg
  obtain ⟨A4, c4, rfl, ha, hm⟩ := HA.out.next hown hg HLIT.out.rd.lt
  have HA := Lib.hid ha
  clear hown hg ha hm HLIT b0 b1 hsz
  go_wp2_with fail
  go_ret2
  refine ⟨_, _, rfl, ?_, HE.out.trans HA.out.ext⟩
  rw [HRL.out]
  exact HA.out.by_
set_option maxRecDepth 100000 in
theorem rsprint_no (x y h : Int) (w : World) (hr : recB x y h = false) :
    Calls Tryd.prog 7 #[.agg #[.int .i64 x, .int .i64 y], .int .i64 h] w fun e w' => e = .returned (.tuple #[.slice none 0 0, .int .i64 2]) ∧ Ext w w' := by
  have HE := Lib.hid ((Ext.refl w).alloc (.cells #[.int .i64 x, .int .i64 y] 23))
  have HBL := Lib.hid (fun V => rballotE x y V)
  cases hb : balE x y with
  | false =>
    rw [hb] at HBL
    clear hb hr
    go_enter Tryd.func7, Tryd.ntmps7
    go_wp2_with fail
    refine (HBL.out _).mono ?_
    rintro e w1 ⟨rfl, hx⟩
    have HE := Lib.hid (HE.out.trans hx)
    clear hx
    go_wp2_with fail
    go_ret2
    exact ⟨rfl, HE.out⟩
  | true =>
    rw [hb] at HBL
    have hh : h < 0 ∨ (¬ h < 0 ∧ 1 < h) := by
      unfold recB at hr
      rw [hb, Bool.true_and, decide_eq_false_iff_not] at hr
      omega
    clear hb hr
    rcases hh with hh | ⟨h0, hh⟩
    · have h1 : decide (h < 0) = true := decide_eq_true hh
      clear hh
      go_enter Tryd.func7, Tryd.ntmps7
      go_wp2_with fail
      refine (HBL.out _).mono ?_
      rintro e w1 ⟨rfl, hx⟩
      have HE := Lib.hid (HE.out.trans hx)
      clear hx
      go_wp2_with fail
      go_ret2
      exact ⟨rfl, HE.out⟩
    · have h1 : decide (h < 0) = false := decide_eq_false h0
      have h2 : decide (1 < h) = true := decide_eq_true hh
      clear hh h0
      go_enter Tryd.func7, Tryd.ntmps7
      go_wp2_with fail
      refine (HBL.out _).mono ?_
      rintro e w1 ⟨rfl, hx⟩
      have HE := Lib.hid (HE.out.trans hx)
      clear hx
      go_wp2_with fail
      go_ret2
      exact ⟨rfl, HE.out⟩
theorem rsprint_of (x y h : Int) (w : World) :
    Calls Tryd.prog 7 #[.agg #[.int .i64 x, .int .i64 y], .int .i64 h] w fun e w' => ∃ A' c', e = .returned (.tuple #[.slice A' (rcL x y h).length c', .int .i64 (rcE x y h)]) ∧ By w' A' (rcL x y h).length c' (rcL x y h) ∧ Ext w w' := by
  cases hr : recB x y h with
  | true =>
    rw [rcL_yes hr, rcE_yes hr, recL_length]
    have hrr := recB_iff.1 hr
    obtain ⟨a, rfl⟩ := Int.eq_ofNat_of_zero_le (show 0 ≤ x by omega)
    obtain ⟨b, rfl⟩ := Int.eq_ofNat_of_zero_le (show 0 ≤ y by omega)
    obtain ⟨c, rfl⟩ := Int.eq_ofNat_of_zero_le (show 0 ≤ h by omega)
    exact rsprint_yes a b c w hr
  | false =>
    rw [rcL_no hr, rcE_no hr]
    exact (rsprint_no x y h w hr).mono fun e w' ⟨he, hx⟩ => ⟨none, 0, he, By.none_ w', hx⟩
end Go.Proofs.YtejejadbemkifaaDoor

namespace Go.Proofs.YtejejadbemkifaaDoor
set_option maxRecDepth 100000
open Go Go.RowKit

def setL (w : World) (g : Nat) : Nat → List Value → World
  | _, [] => w
  | o, x :: xs => setL (w.setCell ⟨g, o, none⟩ x) g (o + 1) xs
def setA (cs : Array Value) : Nat → List Value → Array Value
  | _, [] => cs
  | o, x :: xs => setA (cs.setIfInBounds o x) (o + 1) xs
theorem row_set1 {w : World} {g i : Nat} {cs : Array Value} {t : TypeId} (h : w.heap[g]? = some (.cells cs t (0, 0))) (v : Value) : (w.setCell ⟨g, i, none⟩ v).heap[g]? = some (.cells (cs.setIfInBounds i v) t (0, 0)) := by
  rw [setCell_eq_setRow w g i _ _ _ v h]
  exact setRow_heap w g _ (cs.setIfInBounds i v) _ _ h
theorem row_setL {g : Nat} {t : TypeId} : ∀ (xs : List Value) (w : World) (o : Nat) (cs : Array Value), w.heap[g]? = some (.cells cs t (0, 0)) → (setL w g o xs).heap[g]? = some (.cells (setA cs o xs) t (0, 0))
  | [], _, _, _, h => h
  | x :: xs, _, o, _, h => row_setL xs _ (o + 1) _ (row_set1 h x)
theorem mod_setL {g : Nat} : ∀ (xs : List Value) (w : World) (o : Nat), Mod (fun k => k = g) w (setL w g o xs)
  | [], w, _ => Mod.refl (fun k => k = g) w
  | x :: xs, w, o => Mod.trans (F := fun k => k = g) (Mod.setCell (F := fun k => k = g) (Mod.refl (fun k => k = g) w) (p := ⟨g, o, none⟩) (.inl rfl) x) (mod_setL xs _ (o + 1)) fun _ hi => .inl hi
theorem ext_setL {a w : World} (h : Ext a w) {g : Nat} (hg : a.heap.size ≤ g) (xs : List Value) (o : Nat) : Ext a (setL w g o xs) :=
  Mod.to_ext (Mod.trans (F := fun k => k = g) (Mod.of_ext (F := fun k => k = g) h) (mod_setL xs w o) fun _ hi => .inl hi) fun i hi => by subst hi; exact hg
theorem off_setL {w : World} {g k : Nat} {ob : Obj} (h : w.heap[k]? = some ob) (hk : k ≠ g) (xs : List Value) (o : Nat) : (setL w g o xs).heap[k]? = some ob :=
  ((mod_setL (g := g) xs w o).block k (Array.getElem?_eq_some_iff.1 h).1 hk).trans h
theorem size_setL {g : Nat} (xs : List Value) (w : World) (o : Nat) : w.heap.size ≤ (setL w g o xs).heap.size := (mod_setL (g := g) xs w o).size
end Go.Proofs.YtejejadbemkifaaDoor
