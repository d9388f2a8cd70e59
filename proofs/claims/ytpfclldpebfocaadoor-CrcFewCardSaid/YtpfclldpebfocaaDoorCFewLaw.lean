/-
  The walk of the statement on rows that differ in one, two or three bits.
-/
import Derived.Test.YtpfclldpebfocaaDoorCAwake
import Derived.Test.YtpfclldpebfocaaDoorOrd
import Derived.Test.YtpfclldpebfocaaDoorPat
import Derived.Test.YtpfclldpebfocaaDoorOpen
import Derived.IntWalk
import Derived.Deep.RegionHeld
namespace Go.Proofs.YtpfclldpebfocaaDoor
open Go Go.RowKit Go.Joins

/-- Three numbers, in a block of their own. -/
def Tri (w : World) (b : Nat) (f : Nat → Int) : Prop := ∀ t, t < 3 → w.cell? ⟨b, t, none⟩ = some (.int .i64 (f t))
theorem Tri.set {w : World} {b g o : Nat} {f : Nat → Int} (h : Tri w b f) (hne : b ≠ g) (v : Value) : Tri (w.setCell ⟨g, o, none⟩ v) b f := fun t ht => by
  rw [← h t ht]
  exact World.cell?_setCell_far w ⟨g, o, none⟩ ⟨b, t, none⟩ v (fun e => hne e.symm)
def tri (i j k : Int) (t : Nat) : Int := if t = 0 then i else if t = 1 then j else k
def Flipped (la : List Nat) (n t : Nat) (M : List Nat) : Prop := ∃ ps : List Nat, ps.length = t ∧ (∀ p ∈ ps, p < 8 * n) ∧ M = flips la ps
theorem Flipped.step {la M : List Nat} {n t p : Nat} (h : Flipped la n t M) (hp : p < 8 * n) : Flipped la n (t + 1) (flipB M p) := by
  obtain ⟨ps, h1, h2, rfl⟩ := h
  refine ⟨ps ++ [p], by simp [h1], ?_, (flips_snoc _ _ _).symm⟩
  intro q hq
  rcases List.mem_append.1 hq with hq | hq
  · exact h2 q hq
  · simp at hq; omega
theorem Flipped.lt {la M : List Nat} {n t : Nat} (h : Flipped la n t M) (hl : ∀ x ∈ la, x < 256) : ∀ x ∈ M, x < 256 := by
  obtain ⟨ps, _, _, rfl⟩ := h
  exact flips_lt ps hl
theorem Flipped.len {la M : List Nat} {n t : Nat} (h : Flipped la n t M) : M.length = la.length := by
  obtain ⟨ps, _, _, rfl⟩ := h
  exact flips_length la ps
theorem Flipped.same {la M : List Nat} {n t : Nat} (h : Flipped la n t M) (hl : ∀ x ∈ la, x < 256) (hn : la.length = n) (hm : n ≤ 1500) (ht : t ≤ 3) (he : crcS M = crcS la) : la = M := by
  obtain ⟨ps, h1, h2, rfl⟩ := h
  exact few_ne hl (by omega) (by omega) (by rw [hn]; exact h2) he.symm

set_option maxHeartbeats 4000000 in
set_option maxRecDepth 100000 in
theorem few_yes (A : Option Addr) (n c : Nat) (la : List Nat) (x y z : Int) (w : World) (ha : By w A n c la) (hL : LaidH w) (hn : n ≤ 1500) (hn1 : 1 ≤ n) :
    Calls Tryd.prog 6 #[.slice A n c, .int .i64 x, .int .i64 y, .int .i64 z] w fun e w' => e = .returned (.bool true) ∧ Ext w w' := by
  have HL := Lib.hid hL
  have HA := Lib.hid ha
  have hnz : (((n : Nat) : Int) == 0) = false := by simp; omega
  clear hL ha
  go_enter Tryd.func6, Tryd.ntmps6
  go_wp2_with fail
  refine (cawake_any _ HL.out).mono ?_
  rintro e w1 ⟨rfl, hx⟩
  have HE := Lib.hid hx
  clear hx
  go_wp2_with fail
  refine (copy_by A la n c _ (HA.out.ext HE.out) (by omega)).mono ?_
  rintro e w2 ⟨A1, c1, rfl, hb1, hx, hown⟩
  obtain ⟨g, cap, hv⟩ := ownsRow_form hown (by omega)
  injection hv with hv _ hcap
  subst hv; subst hcap
  have hg := (hown.lt g rfl).1
  have hg2 := (hown.lt g rfl).2
  have HO : Hid ((w2.alloc (.cells #[.int .i64 x, .int .i64 y, .int .i64 z] 3)).ownsRow w1.heap.size 5 1 (.slice (some ⟨g, 0, none⟩) n c1) n (vb la)) := Lib.hid (hown.alloc _)
  have hz0 := Ext.size HE.out
  have HE := Lib.hid ((HE.out.trans hx).alloc (.cells #[.int .i64 x, .int .i64 y, .int .i64 z] 3))
  have HT : Hid (Tri (w2.alloc (.cells #[.int .i64 x, .int .i64 y, .int .i64 z] 3)) w2.heap.size (tri x y z)) := by
    refine Lib.hid fun t ht => ?_
    rw [cell_of_row _ w2.heap.size t _ 3 (0, 0) (heap_alloc_new w2 _)]
    have : t = 0 ∨ t = 1 ∨ t = 2 := by omega
    rcases this with rfl | rfl | rfl <;> rfl
  clear hx hown hb1
  go_wp2_with fail
  go_loopw [11] (fun i wr => ∃ t : Nat, t ≤ 3 ∧ i = .int .i64 t ∧ Hid (∃ M, Flipped la n t M ∧ wr.ownsRow w1.heap.size 5 1 (.slice (some ⟨g, 0, none⟩) n c1) n (vb M)) ∧ Hid (Tri wr w2.heap.size (tri x y z)) ∧ Hid (Ext w wr)) (fun i _ => 3 - (intOf i).toNat)
  case atStart => exact ⟨0, Nat.zero_le _, rfl, Lib.hid ⟨la, ⟨[], rfl, by simp, rfl⟩, HO.out⟩, HT, HE⟩
  case round =>
    obtain ⟨t, ht, rfl, HM, HTk, HEk⟩ := hrel
    clear HO HE HT
    by_cases hlt : t < 3
    · obtain ⟨M, hF, hO⟩ := HM.out
      have HOk := Lib.hid hO
      have hc3 := HTk.out t hlt
      generalize hxt : tri x y z t = xt at hc3
      clear hxt
      obtain ⟨p, hp, hp2⟩ := pos_ex xt (8 * (n : Int)) (by omega)
      have hpn : p < 8 * n := by omega
      have hlen : M.length = n := by rw [hF.len, HA.out.len]
      obtain ⟨u, hu⟩ : ∃ u, M[p / 8]? = some u := ⟨_, List.getElem?_eq_getElem (by omega)⟩
      have hu2 : u < 256 := hF.lt HA.out.rd.lt u (List.mem_of_getElem? hu)
      have hc : wr.cell? ⟨g, p / 8, none⟩ = some (.int .u8 (u : Int)) := by
        rw [HOk.out.cellAt _ (by omega), vb_get, hu]
        rfl
      have hfz := HOk.out.frozenAt (p / 8)
      have hm8 : p % 8 < 8 := Nat.mod_lt _ (by omega)
      have hx8 := turn_u8 u (p % 8) hu2 hm8
      have hF2 := hF.step hpn
      have hs := (HOk.out.stored (p / 8) (.int .u8 ((u ^^^ 2 ^ (p % 8) : Nat) : Int))).1
      rw [vb_set, ← flipB_set hu] at hs
      have HEn := Lib.hid (Below.setCell HEk.out (Nat.le_trans hz0 hg) (p := ⟨g, p / 8, none⟩) (.int .u8 ((u ^^^ 2 ^ (p % 8) : Nat) : Int)))
      have HTn := Lib.hid (HTk.out.set (g := g) (o := p / 8) (by omega) (.int .u8 ((u ^^^ 2 ^ (p % 8) : Nat) : Int)))
      generalize flipB M p = M2 at hF2 hs
      have HM2 := Lib.hid (Bs.of_own hs (hF2.lt HA.out.rd.lt))
      have HN : Hid (∃ M, Flipped la n (t + 1) M ∧ (wr.setCell ⟨g, p / 8, none⟩ (.int .u8 ((u ^^^ 2 ^ (p % 8) : Nat) : Int))).ownsRow w1.heap.size 5 1 (.slice (some ⟨g, 0, none⟩) n c1) n (vb M)) := Lib.hid ⟨M2, hF2, hs⟩
      have hl2 : la.length = M2.length := by rw [hF2.len]
      have HC : Hid (turnedI la M2 = ((cnt la M2 : Nat) : Int)) := Lib.hid (by unfold turnedI; rw [if_pos hl2])
      have hsame := hF2.same HA.out.rd.lt HA.out.len hn (by omega)
      have hzero := cnt_zero hl2 HA.out.rd.lt (hF2.lt HA.out.rd.lt)
      by_cases he : la = M2
      · have t1 : (((crcS M2 : Nat) : Int) == ((crcS la : Nat) : Int)) = true := by rw [he]; simp
        have t2 : (((cnt la M2 : Nat) : Int) == 0) = true := by rw [he, cnt_self]; rfl
        clear hsame hzero
        clear he hF hO hlen hu hF2 hs hl2 HM HOk
        go_wp2_with fail
        refine (sum_any _ M2 n c1 _ _ (HL.out.ext HEn.out) HM2.out.len HM2.out.rd (by unfold maxLen; omega)).mono ?_
        rintro e w' ⟨rfl, rfl⟩
        go_wp2_with fail
        refine (sum_any _ la n c _ _ (HL.out.ext HEn.out) HA.out.len (HA.out.ext HEn.out).rd (by unfold maxLen; omega)).mono ?_
        rintro e w' ⟨rfl, rfl⟩
        go_wp2_with fail
        refine (turned_any _ _ la M2 n n c c1 _ _ HA.out.len HM2.out.len (HA.out.ext HEn.out).rd HM2.out.rd (by omega) (by omega)).mono ?_
        rw [HC.out]
        rintro e w' ⟨rfl, j, rfl⟩
        have HTn := Lib.hid (show Tri (World.drewN (wr.setCell ⟨g, p / 8, none⟩ (.int .u8 ((u ^^^ 2 ^ (p % 8) : Nat) : Int))) j) w2.heap.size (tri x y z) from HTn.out)
        have HN : Hid (∃ M, Flipped la n (t + 1) M ∧ (World.drewN (wr.setCell ⟨g, p / 8, none⟩ (.int .u8 ((u ^^^ 2 ^ (p % 8) : Nat) : Int))) j).ownsRow w1.heap.size 5 1 (.slice (some ⟨g, 0, none⟩) n c1) n (vb M)) := Lib.hid HN.out
        have HEn := Lib.hid (Ext.drewN HEn.out j)
        go_wp2_with fail
        go_roundw
        case rel => exact ⟨t + 1, by omega, by go_num, HN, HTn, HEn⟩
        case measure => simp [intOf]; omega
      · have t1 : (((crcS M2 : Nat) : Int) == ((crcS la : Nat) : Int)) = false := by
          rw [beq_eq_false_iff_ne]
          intro h
          exact he (hsame (by omega))
        have t2 : (((cnt la M2 : Nat) : Int) == 0) = false := by
          rw [beq_eq_false_iff_ne]
          intro h
          exact he (hzero.1 (by omega))
        clear hsame hzero
        clear he hF hO hlen hu hF2 hs hl2 HM HOk
        go_wp2_with fail
        refine (sum_any _ M2 n c1 _ _ (HL.out.ext HEn.out) HM2.out.len HM2.out.rd (by unfold maxLen; omega)).mono ?_
        rintro e w' ⟨rfl, rfl⟩
        go_wp2_with fail
        refine (sum_any _ la n c _ _ (HL.out.ext HEn.out) HA.out.len (HA.out.ext HEn.out).rd (by unfold maxLen; omega)).mono ?_
        rintro e w' ⟨rfl, rfl⟩
        go_wp2_with fail
        refine (turned_any _ _ la M2 n n c c1 _ _ HA.out.len HM2.out.len (HA.out.ext HEn.out).rd HM2.out.rd (by omega) (by omega)).mono ?_
        rw [HC.out]
        rintro e w' ⟨rfl, j, rfl⟩
        have HTn := Lib.hid (show Tri (World.drewN (wr.setCell ⟨g, p / 8, none⟩ (.int .u8 ((u ^^^ 2 ^ (p % 8) : Nat) : Int))) j) w2.heap.size (tri x y z) from HTn.out)
        have HN : Hid (∃ M, Flipped la n (t + 1) M ∧ (World.drewN (wr.setCell ⟨g, p / 8, none⟩ (.int .u8 ((u ^^^ 2 ^ (p % 8) : Nat) : Int))) j).ownsRow w1.heap.size 5 1 (.slice (some ⟨g, 0, none⟩) n c1) n (vb M)) := Lib.hid HN.out
        have HEn := Lib.hid (Ext.drewN HEn.out j)
        go_wp2_with fail
        go_roundw
        case rel => exact ⟨t + 1, by omega, by go_num, HN, HTn, HEn⟩
        case measure => simp [intOf]; omega
    · go_wp2_with fail
      go_ret
      exact ⟨rfl, HEk.out⟩
theorem few_no (A : Option Addr) (n c : Nat) (x y z : Int) (w : World) (hL : LaidH w) (h : 1500 < n ∨ n = 0) :
    Calls Tryd.prog 6 #[.slice A n c, .int .i64 x, .int .i64 y, .int .i64 z] w fun e w' => e = .returned (.bool true) ∧ Ext w w' := by
  have HL := Lib.hid hL
  clear hL
  rcases h with h | rfl
  · have hnz : (((n : Nat) : Int) == 0) = false := by simp; omega
    go_enter Tryd.func6, Tryd.ntmps6
    go_wp2_with fail
    refine (cawake_any _ HL.out).mono ?_
    rintro e w1 ⟨rfl, hx⟩
    have HE := Lib.hid hx
    clear hx
    go_wp2_with fail
    go_ret
    exact ⟨rfl, HE.out⟩
  · go_enter Tryd.func6, Tryd.ntmps6
    go_wp2_with fail
    refine (cawake_any _ HL.out).mono ?_
    rintro e w1 ⟨rfl, hx⟩
    have HE := Lib.hid hx
    clear hx
    go_wp2_with fail
    go_ret
    exact ⟨rfl, HE.out⟩
theorem crcFew_law (A : Option Addr) (n c : Nat) (la : List Nat) (x y z : Int) (w : World) (ha : Bs w w.heap.size A n c la) (_ : (Lit.int .i64 x).wf = true) (_ : (Lit.int .i64 y).wf = true) (_ : (Lit.int .i64 z).wf = true) (hL : LaidH w) :
    Calls Tryd.prog 6 #[.slice A n c, .int .i64 x, .int .i64 y, .int .i64 z] w fun e w' => e = .returned (.bool true) ∧ Below w.heap.size w w' := by
  by_cases h : 1500 < n ∨ n = 0
  · exact few_no A n c x y z w hL h
  · exact few_yes A n c la x y z w ha hL (by omega) (by omega)
end Go.Proofs.YtpfclldpebfocaaDoor
