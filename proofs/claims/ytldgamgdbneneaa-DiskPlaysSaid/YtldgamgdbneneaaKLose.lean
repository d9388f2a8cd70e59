/-
  The contracts of the disk's Lose and Flip.
-/
import Derived.Test.YtldgamgdbneneaaKFlush
namespace Go.Proofs.Ytldgamgdbneneaa
set_option maxRecDepth 100000
open Go Go.RowKit

theorem set1_setCells (w : World) (g o : Nat) (v : Value) : w.setCell ⟨g, o, none⟩ v = w.setCells g o [v] := rfl
/-- A disk of which one sector behind the cache was turned. -/
theorem PD.sec_turned {w w' : World} {d g : Nat} {pv : Value} {m : DM} (h : PD w d g pv m) (hm : Mod (fun i => i = g) w w') (m' : DM) (hok : m'.Ok) (hz : m'.size = m.size) (hmed : MedAt w' g m') (h1 : m'.waits = m.waits) (h2 : m'.down = m.down) (h3 : m'.dead = m.dead) (h4 : m'.power = m.power) : PD w' d g pv m' := by
  refine ⟨hok, by rw [hz]; exact h.n1, by rw [h4]; exact h.top, ?_, hmed, ?_, h.dg, h.pd⟩
  · rw [hz, h4, show stOf m' = stOf m by unfold stOf; rw [h2, h3]]
    exact heap_mod h.head hm h.dg
  · rw [h1]
    exact own_mod h.pen hm fun i hi => (h.pd i hi).2
theorem secC_get {r m : List Nat} {l : Bool} (hr : r.length = 64) (hm : m.length = 64) (j : Nat) (v : Value) (h : (secC r m l)[j]? = some v) : (j < 64 ∧ (vb r)[j]? = some v) ∨ (64 ≤ j ∧ j < 128 ∧ (vb m)[j - 64]? = some v) ∨ (j = 128 ∧ v = .bool l) := by
  unfold secC at h
  by_cases h1 : j < 64
  · rw [List.getElem?_append_left (by rw [vb_length]; omega)] at h
    exact .inl ⟨h1, h⟩
  · rw [List.getElem?_append_right (by rw [vb_length]; omega), vb_length, hr] at h
    by_cases h2 : j < 128
    · rw [List.getElem?_append_left (by rw [vb_length]; omega)] at h
      exact .inr (.inl ⟨by omega, h2, h⟩)
    · rw [List.getElem?_append_right (by rw [vb_length]; omega), vb_length, hm] at h
      have hj : j - 64 - 64 < 1 := (List.getElem?_eq_some_iff.1 h).1
      obtain rfl : j = 128 := by omega
      simp at h
      exact .inr (.inr ⟨rfl, h.symm⟩)
theorem secC_mk {r m : List Nat} {l : Bool} (hr : r.length = 64) (hm : m.length = 64) (j : Nat) (v : Value) (h : (j < 64 ∧ (vb r)[j]? = some v) ∨ (64 ≤ j ∧ j < 128 ∧ (vb m)[j - 64]? = some v) ∨ (j = 128 ∧ v = .bool l)) : (secC r m l)[j]? = some v := by
  unfold secC
  rcases h with ⟨h1, h⟩ | ⟨h1, h2, h⟩ | ⟨rfl, rfl⟩
  · rw [List.getElem?_append_left (by rw [vb_length]; omega)]
    exact h
  · rw [List.getElem?_append_right (by rw [vb_length]; omega), vb_length, hr, List.getElem?_append_left (by rw [vb_length]; omega)]
    exact h
  · rw [List.getElem?_append_right (by rw [vb_length]; omega), vb_length, hr, List.getElem?_append_right (by rw [vb_length]; omega), vb_length, hm]
    rfl

theorem lose_eq (m : DM) (s : Int) : m.lose s = if m.has s = false then (2, m) else (0, { m with lost := m.lost.set s.toNat true }) := rfl
set_option maxRecDepth 100000 in
set_option maxHeartbeats 1600000 in
theorem lose_of {w : World} {d g : Nat} {pv : Value} {m : DM} (h : PD w d g pv m) (s : Int) :
    Calls Try.prog 18 #[.pointer (some ⟨d, 0, none⟩), .int .i64 s] w fun e w' => e = .returned (.int .i64 (m.lose s).1) ∧ PD w' d g pv (m.lose s).2 ∧ Mod (fun i => i = g) w w' := by
  have hx := (Ext.refl w).alloc (.cells #[.int .i64 s] 3)
  have h1 := h.ext hx
  have hz := ZsAt.one w s 3
  have hk := known_of h1 _ 1 1 [s] hz
  rw [known_one] at hk
  have HX := Lib.hid hx
  have H1 := Lib.hid h1
  have HP := Lib.hid (lose_eq m s)
  have HO := Lib.hid (DM.lose_ok h.ok s)
  clear h h1 hx hz
  by_cases hh : m.has s = false
  · have HP1 : Hid (m.lose s = (2, m)) := Lib.hid (by rw [HP.out, if_pos hh])
    rw [if_pos hh] at hk
    have HK := Lib.hid hk
    clear hk hh HP
    go_enter Try.func18, Try.ntmps18
    go_wp2_with fail
    refine HK.out.mono ?_
    rintro e w1 ⟨rfl, rfl⟩
    go_wp2_with fail
    go_ret
    exact ⟨by rw [HP1.out]; rfl, by rw [HP1.out]; exact H1.out, Mod.of_ext HX.out⟩
  · rw [if_neg hh] at hk
    have HK := Lib.hid hk
    have HP1 : Hid (m.lose s = (0, { m with lost := m.lost.set s.toNat true })) := Lib.hid (by rw [HP.out, if_neg hh])
    have hhas : m.has s = true := by simpa using hh
    obtain ⟨hs0, hs1⟩ := DM.has_iff.1 hhas
    obtain ⟨k, rfl⟩ := Int.eq_ofNat_of_zero_le hs0
    have hks : k < m.size := by omega
    rw [Int.toNat_natCast] at HP1
    clear hk hh hhas HP
    go_enter Try.func18, Try.ntmps18
    go_wp2_with fail
    refine HK.out.mono ?_
    rintro e w1 ⟨rfl, rfl⟩
    obtain ⟨⟨c0, c1, c2, c3, c4⟩, f0, f1, f2, f3, f4⟩ := H1.out.cells
    generalize w.alloc (.cells #[.int .i64 (k : Int)] 3) = w1 at *
    obtain ⟨cur, hg, hsz, hcur⟩ := H1.out.med
    have hle : (k + 1) * 129 ≤ m.size * 129 := Nat.mul_le_mul_right _ hks
    have hth := (there_of hg (k * 129 + 128) 1 (by omega)) 0 (by omega)
    rw [Nat.add_zero] at hth
    obtain ⟨u, hu⟩ := Option.isSome_iff_exists.1 hth.1
    have hfr := hth.2
    clear c0 c1 c2 c4 f0 f1 f2 f3 f4 hg hsz hcur hle hth
    go_wp2_with fail
    go_ret
    have hm : Mod (fun i => i = g) w1 (w1.setCells g (k * 129 + 128) [.bool true]) := mod_setCells _ _ _ _
    have hrl := (H1.out.ok.rest_at hks).1
    have hml := (H1.out.ok.meant_at hks).1
    refine ⟨by rw [HP1.out]; rfl, ?_, (Mod.of_ext HX.out).then hm⟩
    have hO := HO.out
    rw [HP1.out] at hO ⊢
    have hsec : ∀ i, ({ m with lost := m.lost.set k true } : DM).sec i = if i = k then secC (m.rest.getD k []) (m.meant.getD k []) true else m.sec i := fun i => by
      unfold DM.sec
      by_cases e : k = i
      · subst e
        rw [if_pos rfl]
        simp only
        rw [getD_set (show k < m.lost.length by rw [H1.out.ok.lost]; exact hks), if_pos rfl]
      · rw [if_neg fun h => e h.symm]
        simp only
        rw [getD_set_ne e]
    refine H1.out.sec_turned hm _ hO rfl ?_ rfl rfl rfl rfl
    refine H1.out.med.set (m' := { m with lost := m.lost.set k true }) hks 128 [.bool true] rfl (by simp) (fun i hi hne => by rw [hsec, if_neg hne]) (fun i hi => by
      rw [hsec]
      split
      · exact secC_len hrl hml
      · exact H1.out.ok.sec_len hi) (fun j v hv => ?_)
    rw [hsec, if_pos rfl] at hv
    rcases secC_get hrl hml j v hv with ⟨a1, a2⟩ | ⟨a1, a2, a3⟩ | ⟨rfl, rfl⟩
    · rw [if_neg (by simp; omega)]
      exact secC_mk hrl hml j v (.inl ⟨a1, a2⟩)
    · rw [if_neg (by simp; omega)]
      exact secC_mk hrl hml j v (.inr (.inl ⟨a1, a2, a3⟩))
    · rw [if_pos (by simp)]
      rfl
end Go.Proofs.Ytldgamgdbneneaa
