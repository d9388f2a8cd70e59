/-
  The contract of the statements' own 'sealed': a frame in one sector or in two, and whether there is one.
-/
import Derived.Test.YtgcjilifmcianaaDoorFAwake
namespace Go.Proofs.YtgcjilifmcianaaDoor
open Go Go.RowKit

theorem sealE_zero {a b c d e s : Int} {n : Nat} : sealE a b c d e n s = 0 ↔ roomN s ≠ 0 ∧ mayB a b c d e = true ∧ n ≤ roomN s := by
  constructor
  · intro h
    by_cases h1 : roomN s = 0 ∨ mayB a b c d e = false
    · rw [sealE_arg h1] at h; cases h
    · have h0 : roomN s ≠ 0 := fun hh => h1 (.inl hh)
      have hm : mayB a b c d e = true := by
        by_cases hm : mayB a b c d e = true
        · exact hm
        · exact absurd (.inr (by simpa using hm)) h1
      refine ⟨h0, hm, ?_⟩
      rcases Nat.lt_or_ge (roomN s) n with h2 | h2
      · rw [sealE_long h0 hm h2] at h; cases h
      · exact h2
  · rintro ⟨h0, hm, hn⟩
    exact sealE_yes h0 hm hn
theorem sealL_len {a b c d e s : Int} {body : List Nat} (h : sealE a b c d e body.length s = 0) : (sealL a b c d e body s).length = 64 * s.toNat ∧ 1 ≤ s ∧ s ≤ 2 := by
  obtain ⟨h0, hm, hn⟩ := sealE_zero.1 h
  obtain ⟨S, rfl⟩ := Int.eq_ofNat_of_zero_le (show 0 ≤ s by have := roomN_pos (s := s) (by omega); omega)
  have hfit := room_fits hn (by omega)
  rw [sealL_yes h, Int.toNat_natCast, frameL_len (by rw [pl_yes hm, tagBytes_len]) (by omega) (by omega)]
  omega
theorem sealL_good {a b c d e s : Int} {body : List Nat} (h : sealE a b c d e body.length s = 0) : goodB (sealL a b c d e body s) = true ∧ obl (sealL a b c d e body s) = body ∧ (ofl (sealL a b c d e body s) 0 : Int) = a ∧ (ofl (sealL a b c d e body s) 1 : Int) = b ∧ (ofl (sealL a b c d e body s) 2 : Int) = c ∧ (ofl (sealL a b c d e body s) 3 : Int) = d ∧ (ofl (sealL a b c d e body s) 4 : Int) = e := by
  obtain ⟨h0, hm, hn⟩ := sealE_zero.1 h
  obtain ⟨S, rfl⟩ := Int.eq_ofNat_of_zero_le (show 0 ≤ s by have := roomN_pos (s := s) (by omega); omega)
  obtain ⟨a, b, c, d, e, rfl, rfl, rfl, rfl, rfl⟩ := may_nat hm
  have hb88 := roomN_le (S : Int)
  rw [sealL_yes h, Int.toNat_natCast, pl_yes hm]
  simp only [Int.toNat_natCast]
  have hg := seal_good (S := S) hm hn (by omega)
  have hr := (PV_tag hm).2
  rw [ofl_yes hg, ofl_yes hg, ofl_yes hg, ofl_yes hg, ofl_yes hg, obl_yes hg, read_tag (tagBytes_len a b c d e), read_body (tagBytes_len a b c d e) (by omega), hr 0 (by omega), hr 1 (by omega), hr 2 (by omega), hr 3 (by omega), hr 4 (by omega)]
  exact ⟨hg, rfl, rfl, rfl, rfl, rfl, rfl⟩
theorem sealL_lt {a b c d e s : Int} {body : List Nat} (hb : ∀ x ∈ body, x < 256) : ∀ x ∈ sealL a b c d e body s, x < 256 := by
  by_cases h : sealE a b c d e body.length s = 0
  · rw [sealL_yes h]
    refine frameL_lt hb ?_
    rw [pl_yes (sealE_zero.1 h).2.1]
    exact tagBytes_lt _ _ _ _ _
  · rw [sealL_no h]
    simp

/-- One sector or two. -/
def sS (two : Bool) : Int := if two then 2 else 1

set_option maxRecDepth 100000 in
set_option maxHeartbeats 6400000 in
theorem sealed_own (a b c d e : Int) (A : Option Addr) (n cp : Nat) (body : List Nat) (two : Bool) (w : World) (hL : LaidF w) (hb : By w A n cp body) :
    Calls Tryd.prog 22 #[.agg #[.int .i64 a, .int .i64 b, .int .i64 c, .int .i64 d, .int .i64 e], .slice A n cp, .bool two] w fun r w' => ∃ A' c', r = .returned (.tuple #[.slice A' (sealL a b c d e body (sS two)).length c', .bool (decide (sealE a b c d e n (sS two) = 0))]) ∧ By w' A' (sealL a b c d e body (sS two)).length c' (sealL a b c d e body (sS two)) ∧ (sealE a b c d e n (sS two) = 0 → w'.ownsRow w.heap.size 5 1 (.slice A' (sealL a b c d e body (sS two)).length c') (sealL a b c d e body (sS two)).length (vb (sealL a b c d e body (sS two)))) ∧ Ext w w' := by
  have hE := (Ext.refl w).alloc (.cells #[.int .i64 a, .int .i64 b, .int .i64 c, .int .i64 d, .int .i64 e] 23)
  have hT := heap_alloc_new w (.cells #[.int .i64 a, .int .i64 b, .int .i64 c, .int .i64 d, .int .i64 e] 23)
  have HL := Lib.hid hL
  have HE := Lib.hid hE
  have HB := Lib.hid hb
  have hlen : body.length = n := Bs.len hb
  obtain ⟨⟨j0, j1, j2, j3, j4⟩, _⟩ := five_cells hT
  have HZ : Hid (sealE a b c d e n (sS two) = 0 → (sealL a b c d e body (sS two)).length = 64 * (sS two).toNat) := Lib.hid fun h => (sealL_len (by rw [hlen]; exact h)).1
  clear hE hL hT hb hlen
  cases two
  all_goals
    simp only [sS, Bool.false_eq_true, if_true, if_false] at HZ ⊢
    go_enter Tryd.func22, Tryd.ntmps22
    go_wp2_with fail
    refine (seal_own _ _ _ _ _ _ _ _ _ body _ (HL.out.ext HE.out) (HB.out.ext HE.out)).mono ?_
    rintro r w1 ⟨A1, c1, rfl, hb1, ho1, hx⟩
    have HB1 := Lib.hid hb1
    have HO1 := Lib.hid fun h => own_base (ho1 h) (Ext.size HE.out)
    have HE := Lib.hid (HE.out.trans hx)
    clear hx hb1 ho1 j0 j1 j2 j3 j4
    revert HZ HB1 HO1
    generalize hLq : sealL _ _ _ _ _ _ _ = L
    generalize hEq : sealE _ _ _ _ _ _ _ = E
    have HLq := Lib.hid hLq
    have HEq := Lib.hid hEq
    clear hLq hEq
    intro HZ HB1 HO1
    by_cases h : E = 0
    · subst h
      have hl := HZ.out rfl
      have HLn := Lib.hid hl
      have HOo := Lib.hid (HO1.out rfl)
      clear HO1
      go_wp2_with fail
      go_ret2
      exact ⟨A1, c1, by rw [HLq.out, HEq.out, HLn.out]; rfl, by rw [HLq.out]; exact HB1.out, fun _ => by rw [HLq.out]; exact HOo.out, HE.out⟩
    · have h1 : (E == 0) = false := by simpa using h
      have HD : Hid (decide (E = 0) = false) := Lib.hid (decide_eq_false h)
      clear h
      go_wp2_with fail
      go_ret2
      exact ⟨A1, c1, by rw [HLq.out, HEq.out, HD.out]; rfl, by rw [HLq.out]; exact HB1.out, fun h => absurd (HEq.out.symm.trans h) (of_decide_eq_false HD.out), HE.out⟩
theorem sealed_any (a b c d e : Int) (A : Option Addr) (n cp : Nat) (body : List Nat) (two : Bool) (w : World) (hL : LaidF w) (hb : By w A n cp body) :
    Calls Tryd.prog 22 #[.agg #[.int .i64 a, .int .i64 b, .int .i64 c, .int .i64 d, .int .i64 e], .slice A n cp, .bool two] w fun r w' => ∃ A' c', r = .returned (.tuple #[.slice A' (sealL a b c d e body (sS two)).length c', .bool (decide (sealE a b c d e n (sS two) = 0))]) ∧ By w' A' (sealL a b c d e body (sS two)).length c' (sealL a b c d e body (sS two)) ∧ Ext w w' :=
  (sealed_own a b c d e A n cp body two w hL hb).mono fun _ _ ⟨A', c', h1, h2, _, h4⟩ => ⟨A', c', h1, h2, h4⟩
end Go.Proofs.YtgcjilifmcianaaDoor
