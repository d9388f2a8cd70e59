/-
  The walk of the statement on bytes that end too soon.
-/
import Derived.Test.YtcnjhblboedbpaaDoorLaws
namespace Go.Proofs.YtcnjhblboedbpaaDoor
open Go Go.RowKit

theorem u64_nonneg (a : Int) : 0 ≤ IntKind.u64.wrap a := by
  rw [IntKind.wrap_u64]
  omega
theorem tmod_nat (u : Int) (k : Nat) (h : 0 ≤ u) (hk : 0 < k) : ∃ r : Nat, r < k ∧ u.tmod (k : Int) = (r : Int) := by
  obtain ⟨u, rfl⟩ := Int.eq_ofNat_of_zero_le h
  refine ⟨u % k, Nat.mod_lt _ hk, ?_⟩
  rw [Int.tmod_eq_emod_of_nonneg (by omega)]
  omega
theorem readS_cut (s : ByteArray) (k : Nat) (hk : k ≤ s.size) : readS ((s.size :: bl s).take k) 0 = ([], 0, 10) := by
  cases k with
  | zero => rfl
  | succ k =>
    have hb : ((s.size :: bl s).take (k + 1))[0]? = some s.size := by simp
    exact readS_short hb (by rw [List.length_take]; omega)
theorem getS_cut {l : List Nat} {x : Nat} (hw : wOk x = true) (h : l.length < x) : getS l 0 x = (0, 0, 10) := getS_short hw (by omega) (by omega) (by omega)
theorem by_zeros {w : World} {base t : Nat} {g n : Nat} (h : w.ownsRow base t 1 (.slice (some ⟨g, 0, none⟩) n n) n (madeCells #[Value.int .u8 0] n).toList) : By w (some ⟨g, 0, none⟩) n n (List.replicate n 0) := by
  rw [toList_madeCells_one] at h
  have e : vb (List.replicate n 0) = List.replicate n (Value.int .u8 0) := by simp [vb]
  rw [← e] at h
  exact Bs.of_own h (by intro b hb; have := List.eq_of_mem_replicate hb; omega)

set_option maxHeartbeats 4000000 in
set_option maxRecDepth 100000 in
theorem octetShort_law (s : ByteArray) (a v : Int) (w : World) (_ : s.size ≤ maxLen) (_ : (Lit.int .i64 a).wf = true) (wv : (Lit.int .u8 v).wf = true) (hL : Laid w) :
    Calls Tryd.prog 8 #[.string s, .int .i64 a, .int .u8 v] w fun e w' => e = .returned (.bool true) ∧ Below w.heap.size w w' := by
  show Calls Tryd.prog 8 #[.string s, .int .i64 a, .int .u8 v] w fun e w' => e = .returned (.bool true) ∧ Ext w w'
  have HL := Lib.hid hL
  have hv := bounds_u8 wv
  clear hL wv
  by_cases hs : 255 < s.size
  · go_enter Tryd.func8, Tryd.ntmps8
    go_wp2_with fail
    refine (awake_any _ HL.out).mono ?_
    rintro e w1 ⟨rfl, hx⟩
    have HE := Lib.hid hx
    clear hx
    go_wp2_with fail
    go_ret
    exact ⟨rfl, HE.out⟩
  · obtain ⟨r, hr1, hr⟩ := tmod_nat (IntKind.u64.wrap a) (s.size + 1) (u64_nonneg a) (by omega)
    rw [Int.natCast_add, Int.natCast_one] at hr
    obtain ⟨i0, hi, hz0, hz1, hz2⟩ := info_parts byte_info
    have key : ∀ (x : Nat) (X J : Int), (X, J) ∈ ([(1, 0), (2, 1), (4, 2), (6, 3)] : List (Int × Int)) → v % 4 = J → wOk X = true → X = (x : Int) → Calls Tryd.prog 8 #[.string s, .int .i64 a, .int .u8 v] w fun e w' => e = .returned (.bool true) ∧ Ext w w' := by
      intro x X J hxj hvj hwx hXx
      obtain ⟨q, hq1, hq⟩ := tmod_nat (IntKind.u64.wrap a) x (u64_nonneg a) (by rcases wOk_cases hwx with h | h | h | h <;> omega)
      rw [← hXx] at hq
      have hq6 : q < 6 := by rcases wOk_cases hwx with h | h | h | h <;> omega
      have hgc : getS (List.replicate q 0) 0 X = (0, 0, 10) := by
        rw [hXx] at hwx ⊢
        exact getS_cut hwx (by rw [List.length_replicate]; exact hq1)
      have HGC := Lib.hid hgc
      clear hwx hXx hq1 hgc
      simp only [List.mem_cons, Prod.mk.injEq, List.not_mem_nil, or_false] at hxj
      rcases hxj with ⟨rfl, rfl⟩ | ⟨rfl, rfl⟩ | ⟨rfl, rfl⟩ | ⟨rfl, rfl⟩
      all_goals
        go_enter Tryd.func8, Tryd.ntmps8
        go_wp2_with fail
        refine (awake_any _ HL.out).mono ?_
        rintro e w1 ⟨rfl, hx⟩
        have HE := Lib.hid hx
        have HL := Lib.hid (HL.out.ext hx)
        clear hx
        go_wp2_with fail
        refine (text_by s _ (by omega)).mono ?_
        rintro e w2 ⟨A1, c1, rfl, hb, hx⟩
        have HB := Lib.hid hb
        have HE := Lib.hid (HE.out.trans hx)
        have HL := Lib.hid (HL.out.ext hx)
        have hc : s.size + 1 ≤ c1 := HB.out.cap
        clear hb hx
        go_wp2_with fail
        have hk : s.size + 1 - (1 + r) ≤ s.size := by omega
        have HRC := Lib.hid (readS_cut s _ hk)
        refine (read_by _ _ _ _ _ _ HL.out (HB.out.drop_last _ (by omega)) (by omega)).mono ?_
        rw [HRC.out]
        rw [show str (([] : List Nat), 0, (10 : Int)).1 = (⟨#[]⟩ : ByteArray) from rfl]
        rintro e w3 ⟨rfl, hx⟩
        have HE := Lib.hid (HE.out.trans hx)
        have HL := Lib.hid (HL.out.ext hx)
        clear hx
        have hsz := HE.out.size
        go_wp2_with (at_make; refine wpList_make_full _ rfl _ _ 22 rfl (w3.heap.size + 1) 5 i0 (.int .u8 0) 1 Tryd.underlying22 hi hz0 hz1 .i64 .i64 _ _ q rfl rfl rfl rfl (by rw [hz2]; omega) (by unfold maxLen; omega) (by simp) ?_)
        intro w4 hown hg
        have HZ := Lib.hid (by_zeros hown)
        have HE := Lib.hid ((HE.out.alloc _).grown hg)
        have HL := Lib.hid (HL.out.ext (((Ext.refl w3).alloc _).grown hg))
        clear hown hg
        go_wp2_with fail
        refine (get_by _ _ _ _ _ _ _ HL.out HZ.out (by omega)).mono ?_
        rw [HGC.out]
        rintro e w5 ⟨rfl, hx⟩
        have HE := Lib.hid (HE.out.trans hx)
        clear hx
        go_wp2_with fail
        go_ret
        exact ⟨rfl, HE.out⟩
    have hj : v % 4 = 0 ∨ v % 4 = 1 ∨ v % 4 = 2 ∨ v % 4 = 3 := by omega
    rcases hj with h | h | h | h
    · exact key 1 1 0 (by simp) h rfl rfl
    · exact key 2 2 1 (by simp) h rfl rfl
    · exact key 4 4 2 (by simp) h rfl rfl
    · exact key 6 6 3 (by simp) h rfl rfl
end Go.Proofs.YtcnjhblboedbpaaDoor
