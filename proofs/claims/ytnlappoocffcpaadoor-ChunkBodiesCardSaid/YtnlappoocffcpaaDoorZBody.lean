/-
  The contracts of chunk's Print and Parse, and of the document's: a chunk's body.
-/
import Derived.Test.YtnlappoocffcpaaDoorZSmall
import Derived.Test.YtnlappoocffcpaaDoorZClone
import Derived.Test.YtnlappoocffcpaaDoorOBy
import Derived.Test.YtnlappoocffcpaaDoorJBy
import Derived.Test.YtnlappoocffcpaaDoorAwake
namespace Go.Proofs.YtnlappoocffcpaaDoor
open Go Go.RowKit

def bdZ (count : Int) (c : List Nat) : Bool := decide (1 ≤ count ∧ count ≤ 8 ∧ c.length ≤ 80)
theorem bdZ_iff {count : Int} {c : List Nat} : bdZ count c = true ↔ 1 ≤ count ∧ count ≤ 8 ∧ c.length ≤ 80 := decide_eq_true_iff
def prZE (count : Int) (c : List Nat) : Int := if bdZ count c = true then 0 else 2
def prZL (count : Int) (c : List Nat) : List Nat := if bdZ count c = true then count.toNat :: c else []
/-- What a body is: the number, the bytes, the error. -/
def paZ : List Nat → Nat × List Nat × Int
  | [] => (0, [], 120)
  | x :: r => if 1 ≤ x ∧ x ≤ 8 ∧ r.length ≤ 80 then (x, r, 0) else (0, [], 120)
theorem paZ_back {count : Int} {c : List Nat} (h : bdZ count c = true) : paZ (prZL count c) = (count.toNat, c, 0) := by
  have := bdZ_iff.1 h
  unfold prZL
  rw [if_pos h]
  show (if _ then _ else _) = _
  rw [if_pos (by omega)]
theorem paZ_of {l : List Nat} (h : (paZ l).2.2 = 0) : bdZ ((paZ l).1 : Int) (paZ l).2.1 = true ∧ prZL ((paZ l).1 : Int) (paZ l).2.1 = l := by
  cases l with
  | nil => cases h
  | cons x r =>
    have e : paZ (x :: r) = if 1 ≤ x ∧ x ≤ 8 ∧ r.length ≤ 80 then (x, r, 0) else (0, [], 120) := rfl
    rw [e] at h ⊢
    split at h
    · rename_i hx
      rw [if_pos hx]
      have hb : bdZ (x : Int) r = true := bdZ_iff.2 (by omega)
      exact ⟨hb, by unfold prZL; rw [if_pos hb]; simp⟩
    · cases h
theorem digs_byteZ {n : Nat} (h : n < 256) : digs 1 n = [n] := by simp [digs]; omega
theorem fits_byteZ {n : Nat} (h : n < 256) : fitsB (1 : Nat) n = true := fits_iff.2 ⟨rfl, by omega, by simpa using h⟩
theorem wBZ : wOk (1 : Nat) = true := by decide
set_option maxRecDepth 100000 in
set_option maxHeartbeats 1000000 in
theorem zprint_any (count : Int) (A : Option Addr) (n c : Nat) (l : List Nat) (w : World) (hL : Laid w) (hb : By w A n c l) (hn : n ≤ 140737488355000) :
    Calls Tryd.prog 6 #[.int .i64 count, .slice A n c] w fun e w' => ∃ A' N' c', e = .returned (.tuple #[.slice A' N' c', .int .i64 (prZE count l)]) ∧ By w' A' N' c' (prZL count l) ∧ Ext w w' := by
  have HL := Lib.hid hL
  have HB := Lib.hid hb
  have hlen := hb.len
  clear hL hb
  cases hz : bdZ count l with
  | true =>
    obtain ⟨h1, h8, h80⟩ := bdZ_iff.1 hz
    obtain ⟨k, rfl⟩ := Int.eq_ofNat_of_zero_le (show 0 ≤ count by omega)
    have hin : inZ 1 (k : Int) 8 = true := inZ_iff.2 ⟨h1, h8⟩
    have HIN := Lib.hid hin
    have HZ := Lib.hid hz
    have hk : k ≤ 8 := by omega
    have hn80 : n ≤ 80 := by omega
    have hp := fun V (hV : Laid V) => put_by 1 k V hV (fits_byteZ (by omega))
    rw [digs_byteZ (show k < 256 by omega)] at hp
    have HP := Lib.hid hp
    clear hin hz h1 h8 h80 hlen hp
    go_enter Tryd.func6, Tryd.ntmps6
    go_wp2_with fail
    refine (zcount_of _ _).mono ?_
    rw [HIN.out]
    rintro e w1 ⟨rfl, rfl⟩
    go_wp2_with fail
    refine (HP.out _ HL.out).mono ?_
    rintro e w1 ⟨A1, c1, rfl, hby, hx⟩
    have HBY := Lib.hid hby
    have HX := Lib.hid hx
    have HB1 := Lib.hid (HB.out.ext hx)
    clear hby hx
    go_wp2_with fail
    have hj := join2_by w1 HBY.out HB1.out (by omega)
    rw [show ([k] : List Nat) ++ l = k :: l from rfl] at hj
    refine hj.mono ?_
    rintro e w2 ⟨A2, c2, rfl, hby, hx⟩
    have HBY2 := Lib.hid hby
    have HX2 := Lib.hid (HX.out.trans hx)
    clear hby hx hj
    go_wp2_with fail
    refine bodyPost_ret (v := .tuple #[.slice A2 (1 + n) c2, .int .i64 0]) (by simp [results, Tryd.results6, go_sem]) rfl ?_
    exact ⟨A2, 1 + n, c2, by unfold prZE; rw [HZ.out]; rfl, by unfold prZL; rw [HZ.out]; simpa using HBY2.out, HX2.out⟩
  | false =>
    have HZ := Lib.hid hz
    cases hin : inZ 1 count 8 with
    | false =>
      have HIN := Lib.hid hin
      clear hz hin
      go_enter Tryd.func6, Tryd.ntmps6
      go_wp2_with fail
      refine (zcount_of _ _).mono ?_
      rw [HIN.out]
      rintro e w1 ⟨rfl, rfl⟩
      go_wp2_with fail
      refine bodyPost_ret (v := .tuple #[.slice none 0 0, .int .i64 2]) (by simp [results, Tryd.results6, go_sem]) rfl ?_
      exact ⟨none, 0, 0, by unfold prZE; rw [HZ.out]; rfl, by unfold prZL; rw [HZ.out]; exact By.nil_ _, Ext.refl _⟩
    | true =>
      have h81 : 80 < n := by
        have h1 := inZ_iff.1 hin
        by_cases h : n ≤ 80
        · have hln := Bs.len HB.out
          have := (bdZ_iff (count := count) (c := l)).2 ⟨h1.1, h1.2, by omega⟩
          rw [hz] at this
          cases this
        · omega
      have HIN := Lib.hid hin
      clear hz hin
      go_enter Tryd.func6, Tryd.ntmps6
      go_wp2_with fail
      refine (zcount_of _ _).mono ?_
      rw [HIN.out]
      rintro e w1 ⟨rfl, rfl⟩
      go_wp2_with fail
      refine bodyPost_ret (v := .tuple #[.slice none 0 0, .int .i64 2]) (by simp [results, Tryd.results6, go_sem]) rfl ?_
      exact ⟨none, 0, 0, by unfold prZE; rw [HZ.out]; rfl, by unfold prZL; rw [HZ.out]; exact By.nil_ _, Ext.refl _⟩
def tlA (A : Option Addr) (c : Nat) : Option Addr := if c = 1 then A else A.map fun a => a.add 1
theorem By.tail1 {w : World} {A : Option Addr} {n c x : Nat} {r : List Nat} (h : By w A n c (x :: r)) : By w (tlA A c) (n - 1) (c - 1) r := by
  have hl := h.len
  have hcp := h.cap
  have hm := h.most
  rw [List.length_cons] at hl
  obtain ⟨g, o, hA, _⟩ := h.rd.2 (by simp)
  cases r with
  | nil =>
    simp at hl
    refine ⟨by simp; omega, by omega, by omega, Rd.nil_, fun e => ?_⟩
    subst hA
    unfold tlA at e
    split at e
    · cases e
    · cases e
  | cons y r =>
    rw [List.length_cons] at hl
    subst hA
    have e : tlA (some ⟨g, o, none⟩) c = some ⟨g, o + 1, none⟩ := by
      unfold tlA
      rw [if_neg (by omega), Option.map_some, Addr.add_lit]
    rw [e]
    refine ⟨by rw [List.length_cons]; omega, by omega, by omega, h.rd.drop rfl 1, fun e => by cases e⟩
theorem zcut_one (A : Option Addr) (n c : Nat) (h : 1 ≤ n) (w : World) : (Instr.slice 22 (.slice A n c) (some (.int .i64 1)) none none).run Tryd.prog w = .ok (.slice (tlA A c) (n - 1) (c - 1)) w := by
  have ht : Tryd.prog.elem 22 = 5 := by kernel_rfl
  rw [run_slice_l w 22 A n c (by rw [ht]; exact Tryd.underlying22) .i64 1 (by omega) (by omega), u8_sizeZ]
  simp only [Result.andThen, sliced]
  rw [show (1 : Int).toNat = 1 from rfl]
  unfold tlA
  simp
theorem getS_cons (x : Nat) (r : List Nat) : getS (x :: r) 0 1 = (x, 1, 0) := by
  unfold getS
  rw [if_neg (by simp [show wOk 1 = true from by decide]; omega), if_neg (by simp; omega)]
  simp [num]
theorem getS_nilZ : getS [] 0 1 = (0, 0, 10) := by decide
set_option maxRecDepth 100000 in
set_option maxHeartbeats 1000000 in
theorem zparse_any (A : Option Addr) (n c : Nat) (l : List Nat) (w : World) (hL : Laid w) (hb : By w A n c l) (hn : n ≤ 140737488355000) :
    Calls Tryd.prog 8 #[.slice A n c] w fun e w' => ∃ A' N' c', e = .returned (.tuple #[.int .i64 ((paZ l).1 : Nat), .slice A' N' c', .int .i64 (paZ l).2.2]) ∧ By w' A' N' c' (paZ l).2.1 ∧ Ext w w' := by
  have hg := get_by A l n c 0 1 w hL hb (by omega)
  have HB := Lib.hid hb
  have hlen := hb.len
  cases l with
  | nil =>
    rw [getS_nilZ] at hg
    have HG := Lib.hid hg
    clear hL hb hg hlen
    go_enter Tryd.func8, Tryd.ntmps8
    go_wp2_with fail
    refine HG.out.mono ?_
    rintro e w1 ⟨rfl, hx⟩
    have HX := Lib.hid hx
    clear hx
    go_wp2_with fail
    refine bodyPost_ret (v := .tuple #[.int .i64 0, .slice none 0 0, .int .i64 120]) (by simp [results, Tryd.results8, go_sem]) rfl ?_
    exact ⟨none, 0, 0, rfl, By.nil_ _, HX.out⟩
  | cons x r =>
    rw [getS_cons] at hg
    have HG := Lib.hid hg
    have e : paZ (x :: r) = if 1 ≤ x ∧ x ≤ 8 ∧ r.length ≤ 80 then (x, r, 0) else (0, [], 120) := rfl
    rw [e]
    rw [List.length_cons] at hlen
    have hx9 : x < 256 := hb.rd.lt x (List.mem_cons_self ..)
    clear hL hb hg e
    cases hin : inZ 1 (x : Int) 8 with
    | false =>
      have hno : ¬ (1 ≤ x ∧ x ≤ 8 ∧ r.length ≤ 80) := fun h => by
        have := inZ_iff.2 (show (1 : Int) ≤ (x : Int) ∧ (x : Int) ≤ 8 by omega)
        rw [hin] at this
        cases this
      rw [if_neg hno]
      have HIN := Lib.hid hin
      clear hno hin hlen
      go_enter Tryd.func8, Tryd.ntmps8
      go_wp2_with fail
      refine HG.out.mono ?_
      rintro e w1 ⟨rfl, hx⟩
      have HX := Lib.hid hx
      clear hx
      go_wp2_with fail
      refine (zcount_of _ _).mono ?_
      rw [HIN.out]
      rintro e w2 ⟨rfl, rfl⟩
      go_wp2_with fail
      refine bodyPost_ret (v := .tuple #[.int .i64 0, .slice none 0 0, .int .i64 120]) (by simp [results, Tryd.results8, go_sem]) rfl ?_
      exact ⟨none, 0, 0, rfl, By.nil_ _, HX.out⟩
    | true =>
      have hx8 := inZ_iff.1 hin
      have HIN := Lib.hid hin
      clear hin
      by_cases h80 : 81 < n
      · rw [if_neg (by omega)]
        clear hlen hx8
        go_enter Tryd.func8, Tryd.ntmps8
        go_wp2_with fail
        refine HG.out.mono ?_
        rintro e w1 ⟨rfl, hx⟩
        have HX := Lib.hid hx
        clear hx
        go_wp2_with fail
        refine (zcount_of _ _).mono ?_
        rw [HIN.out]
        rintro e w2 ⟨rfl, rfl⟩
        go_wp2_with fail
        refine bodyPost_ret (v := .tuple #[.int .i64 0, .slice none 0 0, .int .i64 120]) (by simp [results, Tryd.results8, go_sem]) rfl ?_
        exact ⟨none, 0, 0, rfl, By.nil_ _, HX.out⟩
      · rw [if_pos (by omega)]
        have hcut := fun W => zcut_one A n c (by omega) W
        have hn1 : 1 ≤ n := by omega
        clear hlen hx8
        go_enter Tryd.func8, Tryd.ntmps8
        go_wp2_with fail
        refine HG.out.mono ?_
        rintro e w1 ⟨rfl, hx⟩
        have HX := Lib.hid hx
        have HB1 := Lib.hid (By.tail1 (HB.out.ext hx))
        clear hx
        go_wp2_with fail
        refine (zcount_of _ _).mono ?_
        rw [HIN.out]
        rintro e w2 ⟨rfl, rfl⟩
        go_wp2_with fail
        refine (sclone_by _ _ _ _ _ HB1.out (by omega)).mono ?_
        rintro e w3 ⟨A', c', rfl, hby, hx, _⟩
        have HX3 := Lib.hid (HX.out.trans hx)
        have HBY := Lib.hid hby
        clear hby hx
        go_wp2_with fail
        refine bodyPost_ret (v := .tuple #[.int .i64 (x : Int), .slice A' (n - 1) c', .int .i64 0]) (by simp [results, Tryd.results8, go_sem]) rfl ?_
        exact ⟨A', n - 1, c', rfl, HBY.out, HX3.out⟩
end Go.Proofs.YtnlappoocffcpaaDoor
