/-
  The contract of the document's own Seal.
-/
import Derived.Test.YtgcjilifmcianaaDoorFSeal
import Derived.Test.YtgcjilifmcianaaDoorRefC
import Derived.Test.YtgcjilifmcianaaDoorOwn
namespace Go.Proofs.YtgcjilifmcianaaDoor
open Go Go.RowKit

theorem rsum_by (A : Option Addr) (l : List Nat) (n c : Nat) (w : World) (hb : By w A n c l) :
    Calls Tryd.prog 29 #[.slice A n c] w fun e w' => e = .returned (.int .u32 ((crcS l : Nat) : Int)) ∧ w = w' :=
  rsum_any A l n c _ w hb.len hb.rd (by have := hb.cap; have := hb.most; unfold maxLen; omega)
/-- A slice value's length. -/
def lenOf : Value → Nat
  | .slice _ n _ => n
  | _ => 0
theorem zeros_snoc (l : List Nat) (k : Nat) : l ++ List.replicate k 0 ++ [0] = l ++ List.replicate (k + 1) 0 := by
  rw [List.append_assoc, ← List.replicate_succ']

set_option maxRecDepth 100000 in
set_option maxHeartbeats 3200000 in
theorem rseal_arg (a b c d e s : Int) (A : Option Addr) (n cp : Nat) (w : World) (h : roomN s = 0 ∨ mayB a b c d e = false) :
    Calls Tryd.prog 12 #[.agg #[.int .i64 a, .int .i64 b, .int .i64 c, .int .i64 d, .int .i64 e], .slice A n cp, .int .i64 s] w fun r w' => r = .returned (.tuple #[.slice none 0 0, .int .i64 2]) ∧ Ext w w' := by
  have hE := (Ext.refl w).alloc (.cells #[.int .i64 a, .int .i64 b, .int .i64 c, .int .i64 d, .int .i64 e] 23)
  have hT := heap_alloc_new w (.cells #[.int .i64 a, .int .i64 b, .int .i64 c, .int .i64 d, .int .i64 e] 23)
  have HE := Lib.hid hE
  obtain ⟨⟨i0, i1, i2, i3, i4⟩, _⟩ := five_cells hT
  clear hE hT
  by_cases hm : mayB a b c d e = false
  · clear h
    go_enter Tryd.func12, Tryd.ntmps12
    go_wp2_with fail
    refine (rprint_any _ _ _ _ _ _).mono ?_
    rw [pl_no hm, pr_no hm]
    rintro r w1 ⟨A1, c1, rfl, _, hx⟩
    have HE := Lib.hid (HE.out.trans hx)
    clear hx i0 i1 i2 i3 i4
    go_wp2_with fail
    go_ret2
    exact ⟨rfl, HE.out⟩
  · have h0 : roomN s = 0 := by rcases h with h | h; exact h; exact absurd h hm
    have hm' : mayB a b c d e = true := by simpa using hm
    clear h hm
    go_enter Tryd.func12, Tryd.ntmps12
    go_wp2_with fail
    refine (rprint_any _ _ _ _ _ _).mono ?_
    rw [pr_yes hm']
    rintro r w1 ⟨A1, c1, rfl, _, hx⟩
    have HE := Lib.hid (HE.out.trans hx)
    clear hx i0 i1 i2 i3 i4 hm'
    go_wp2_with fail
    refine (rroom_any _ _).mono ?_
    rw [h0]
    rintro r w2 ⟨rfl, rfl⟩
    go_wp2_with fail
    go_ret2
    exact ⟨rfl, HE.out⟩

set_option maxRecDepth 100000 in
set_option maxHeartbeats 3200000 in
theorem rseal_long (a b c d e s : Int) (A : Option Addr) (n cp : Nat) (w : World) (h0 : roomN s ≠ 0) (hm : mayB a b c d e = true) (hn : roomN s < n) :
    Calls Tryd.prog 12 #[.agg #[.int .i64 a, .int .i64 b, .int .i64 c, .int .i64 d, .int .i64 e], .slice A n cp, .int .i64 s] w fun r w' => r = .returned (.tuple #[.slice none 0 0, .int .i64 3]) ∧ Ext w w' := by
  have hE := (Ext.refl w).alloc (.cells #[.int .i64 a, .int .i64 b, .int .i64 c, .int .i64 d, .int .i64 e] 23)
  have hT := heap_alloc_new w (.cells #[.int .i64 a, .int .i64 b, .int .i64 c, .int .i64 d, .int .i64 e] 23)
  have HE := Lib.hid hE
  obtain ⟨⟨i0, i1, i2, i3, i4⟩, _⟩ := five_cells hT
  have g0 : (((roomN s : Nat) : Int) == 0) = false := by simpa using h0
  have HR : Hid (∀ w, Calls Tryd.prog 14 #[.int .i64 s] w fun e w' => e = .returned (.int .i64 (roomN s)) ∧ w = w') := Lib.hid (rroom_any s)
  clear hE hT h0
  go_enter Tryd.func12, Tryd.ntmps12
  go_wp2_with fail
  refine (rprint_any _ _ _ _ _ _).mono ?_
  rw [pr_yes hm]
  rintro r w1 ⟨A1, c1, rfl, _, hx⟩
  have HE := Lib.hid (HE.out.trans hx)
  clear hx i0 i1 i2 i3 i4 hm
  generalize roomN s = R at *
  go_wp2_with fail
  refine (HR.out _).mono ?_
  rintro r w2 ⟨rfl, rfl⟩
  go_wp2_with fail
  refine (HR.out _).mono ?_
  rintro r w2 ⟨rfl, rfl⟩
  go_wp2_with fail
  go_ret2
  exact ⟨rfl, HE.out⟩

set_option maxRecDepth 100000 in
set_option maxHeartbeats 6400000 in
theorem rseal_yes (a b c d e : Int) (S : Nat) (A : Option Addr) (n cp : Nat) (body : List Nat) (w : World) (hb : By w A n cp body) (h0 : roomN (S : Int) ≠ 0) (hm : mayB a b c d e = true) (hn : n ≤ roomN (S : Int)) :
    Calls Tryd.prog 12 #[.agg #[.int .i64 a, .int .i64 b, .int .i64 c, .int .i64 d, .int .i64 e], .slice A n cp, .int .i64 S] w fun r w' => ∃ A' c', r = .returned (.tuple #[.slice A' (64 * S) c', .int .i64 0]) ∧ By w' A' (64 * S) c' (frameL body (pl a b c d e) S) ∧ Ext w w' := by
  obtain ⟨i0, hi, hz0, hz1, hz2⟩ := info_parts byte_info
  have hE := (Ext.refl w).alloc (.cells #[.int .i64 a, .int .i64 b, .int .i64 c, .int .i64 d, .int .i64 e] 23)
  have hT := heap_alloc_new w (.cells #[.int .i64 a, .int .i64 b, .int .i64 c, .int .i64 d, .int .i64 e] 23)
  have HE := Lib.hid hE
  have HB := Lib.hid hb
  obtain ⟨⟨j0, j1, j2, j3, j4⟩, _⟩ := five_cells hT
  have g0 : (((roomN (S : Int) : Nat) : Int) == 0) = false := by simpa using h0
  have HR : Hid (∀ w, Calls Tryd.prog 14 #[.int .i64 S] w fun e w' => e = .returned (.int .i64 (roomN (S : Int))) ∧ w = w') := Lib.hid (rroom_any S)
  have hfit := room_fits hn (by omega)
  have h15 : (pl a b c d e).length = 15 := by rw [pl_yes hm, tagBytes_len]
  have hN : body.length = n := Bs.len hb
  obtain ⟨m, hm4⟩ : ∃ m : Nat, m = 64 * S - 21 - n := ⟨_, rfl⟩
  have HH : Hid (digs 2 n ++ pl a b c d e ++ body ++ List.replicate m 0 = frameH body (pl a b c d e) S) := Lib.hid (by rw [← hN]; exact frame_split body _ S m (by rw [hN]; exact hm4))
  have hm5 : 17 + n + m ≤ 64 * S - 4 := by omega
  have hm6 : 64 * S - 4 ≤ 17 + n + m := by omega
  have HM5 : Hid (2 + 15 + n + m = 64 * S - 4 ∧ 64 * S - 4 + 4 = 64 * S) := Lib.hid (by omega)
  have hroomle := roomN_le (S : Int)
  have HHlt : Hid (∀ x ∈ frameH body (pl a b c d e) S, x < 256) := Lib.hid (frameH_lt (Bs.rd hb).lt (by rw [pl_yes hm]; exact tagBytes_lt _ _ _ _ _))
  have hplt : ∀ x ∈ pl a b c d e, x < 256 := by rw [pl_yes hm]; exact tagBytes_lt _ _ _ _ _
  have HPlt := Lib.hid hplt
  clear hE hT h0 hb hN hm4 hplt
  go_enter Tryd.func12, Tryd.ntmps12
  go_wp2_with fail
  refine (rprint_any _ _ _ _ _ _).mono ?_
  rw [h15, pr_yes hm]
  rintro r w1 ⟨A1, c1, rfl, hb1, hx⟩
  have HB1 := Lib.hid hb1
  have HE := Lib.hid (HE.out.trans hx)
  clear hx j0 j1 j2 j3 j4 hm hb1
  generalize roomN (S : Int) = R at *
  generalize hpl : pl a b c d e = own at *
  have HPL := Lib.hid hpl
  clear hpl
  go_wp2_with fail
  refine (HR.out _).mono ?_
  rintro r w2 ⟨rfl, rfl⟩
  go_wp2_with fail
  refine (HR.out _).mono ?_
  rintro r w2 ⟨rfl, rfl⟩
  go_wp2_with fail
  refine (rput_yes 2 n _ (fits_iff.2 ⟨rfl, by omega, by show n < 65536; omega⟩)).mono ?_
  rintro r w2 ⟨A2, c2, rfl, ho2, hx2⟩
  have HO2 := Lib.hid ho2
  have HX2 : Hid (Ext w1 w2) := Lib.hid hx2
  have hsz2 := Ext.size HX2.out
  clear ho2 hx2
  go_wp2_with (at_builtin; refine wpList_append_by rfl _ _ 24 rfl w1.heap.size 5 i0 Tryd.underlying24 hi hz0 hz1 hz2 _ 2 (vb (digs 2 n)) rfl HO2.out A1 15 c1 own rfl (HB1.out.ext HX2.out) (by omega) hsz2 ?_)
  intro v3 w3 hown hg
  obtain ⟨hx, A3, c3, rfl, _, ho3⟩ := app_step HX2.out HO2.out hg hown (digs_lt _ _) HB1.out.rd.lt
  have HO3 := Lib.hid ho3
  have HX3 := Lib.hid hx
  have hsz3 := Ext.size HX3.out
  clear hx ho3 hown hg hsz2 HO2 HX2
  go_wp2_with (at_builtin; refine wpList_append_by rfl _ _ 24 rfl w1.heap.size 5 i0 Tryd.underlying24 hi hz0 hz1 hz2 _ (2 + 15) (vb (digs 2 n ++ own)) rfl HO3.out A n cp body rfl (HB.out.ext (HE.out.trans HX3.out)) (by omega) hsz3 ?_)
  intro v4 w4 hown hg
  obtain ⟨hx, A4, c4, rfl, _, ho4⟩ := app_step HX3.out HO3.out hg hown (by intro x hx; rcases List.mem_append.1 hx with h | h; exact digs_lt _ _ x h; exact HPlt.out x h) HB.out.rd.lt
  have HO4 := Lib.hid ho4
  have HX4 := Lib.hid hx
  clear hx ho4 hown hg hsz3 HO3 HX3
  have HPre : Hid (∀ x ∈ digs 2 n ++ own ++ body, x < 256) := Lib.hid (by
    intro x hx
    rcases List.mem_append.1 hx with h | h
    · rcases List.mem_append.1 h with h | h
      · exact digs_lt _ _ x h
      · exact HPlt.out x h
    · exact HB.out.rd.lt x h)
  go_wp2_with fail
  generalize digs 2 n ++ own ++ body = Pre at *
  go_loopw [10] (fun v wr => ∃ k : Nat, k ≤ m ∧ ∃ A' c' L, v = .slice A' (17 + n + k) c' ∧ Hid (L = Pre ++ List.replicate k 0) ∧ Hid (∀ x ∈ L, x < 256) ∧ Hid (wr.ownsRow w1.heap.size 5 1 (.slice A' (17 + n + k) c') (17 + n + k) (vb L)) ∧ Hid (Ext w1 wr)) (fun v _ => 17 + n + m - lenOf v)
  case atStart => exact ⟨0, Nat.zero_le _, A4, c4, Pre, rfl, Lib.hid (by rw [List.replicate_zero, List.append_nil]), HPre, HO4, HX4⟩
  case round =>
    obtain ⟨k, hk, A5, c5, L, rfl, HLk, HLt, HO5, HX5⟩ := hrel
    have hsz5 := Ext.size HX5.out
    by_cases hlt : k < m
    · obtain ⟨Z, hZ⟩ : ∃ Z, Z = [0] := ⟨_, rfl⟩
      have hlit := By.lit wr [0] 5 (by decide) (by decide) #[.int .u8 0] rfl
      rw [← hZ] at hlit
      have HY : Hid (By (wr.alloc (.cells #[.int .u8 0] 5)) (some ⟨wr.heap.size, 0, none⟩) 1 1 Z) := Lib.hid (by rw [hZ] at hlit ⊢; exact hlit)
      have HZ1 : Hid (Z = [0]) := Lib.hid hZ
      have hsz6 : w1.heap.size ≤ (wr.alloc (.cells #[.int .u8 0] 5)).heap.size := Nat.le_trans hsz5 (by simp)
      clear hlit hZ
      go_wp2_with (at_builtin; refine wpList_append_by rfl _ _ 24 rfl w1.heap.size 5 i0 Tryd.underlying24 hi hz0 hz1 hz2 _ (17 + n + k) (vb L) rfl (HO5.out.alloc _) (some ⟨wr.heap.size, 0, none⟩) 1 1 Z rfl HY.out (by omega) hsz6 ?_)
      intro v6 w6 hown hg
      obtain ⟨hx, A6, c6, rfl, hb6, ho6⟩ := app_step (HX5.out.alloc _) (HO5.out.alloc _) hg hown HLt.out (by rw [HZ1.out]; decide)
      have HL6 : Hid (L ++ Z = Pre ++ List.replicate (k + 1) 0) := Lib.hid (by rw [HZ1.out, HLk.out, zeros_snoc])
      have HLt6 := Lib.hid hb6.rd.lt
      have HO6 := Lib.hid ho6
      have HX6 := Lib.hid hx
      clear hx ho6 hown hg hsz6 HY HO5 HX5 hb6
      generalize L ++ Z = L6 at *
      go_wp2_with fail
      go_roundw
      case rel => exact ⟨k + 1, by omega, A6, c6, L6, rfl, HL6, HLt6, HO6, HX6⟩
      case measure => simp [lenOf]; omega
    · have hkm : k = m := by omega
      subst hkm
      have hLF : L = frameH body own S := HLk.out.trans HH.out
      have hs : crcS L < 4294967296 := crcE_lt _ _
      have HZ : Hid (L ++ digs 4 (crcS L) = frameL body own S) := Lib.hid (by rw [hLF]; rfl)
      have HB5 := Lib.hid (Bs.of_own HO5.out HLt.out)
      clear hLF
      generalize hz : crcS L = z at *
      go_wp2_with fail
      refine (rsum_by _ L _ _ _ HB5.out).mono ?_
      rw [hz]
      rintro r w6 ⟨rfl, rfl⟩
      have HZz := Lib.hid hz
      clear hz
      go_wp2_with fail
      refine (rput_yes 4 z _ (fits_iff.2 ⟨rfl, by omega, by show z < 4294967296; omega⟩)).mono ?_
      rintro r w7 ⟨A7, c7, rfl, ho7, hx7⟩
      obtain ⟨D, hD⟩ : ∃ D, D = digs 4 z := ⟨_, rfl⟩
      have hb7 := Bs.of_own ho7 (digs_lt _ _)
      rw [← hD] at hb7
      have HZ := HZ.out
      rw [← hD] at HZ
      have HZ := Lib.hid HZ
      have HB7 : Hid (By w7 A7 4 c7 D) := Lib.hid hb7
      have HX7 : Hid (Ext wr w7) := Lib.hid hx7
      have HO7 := Lib.hid (own_ext HO5.out HX7.out)
      have HX := Lib.hid (HX5.out.trans HX7.out)
      have hsz7 := Ext.size HX.out
      clear ho7 hx7 hb7 hD
      go_wp2_with (at_builtin; refine wpList_append_by rfl _ _ 24 rfl w1.heap.size 5 i0 Tryd.underlying24 hi hz0 hz1 hz2 _ (17 + n + k) (vb L) rfl HO7.out A7 4 c7 D rfl HB7.out (by omega) hsz7 ?_)
      intro v8 w8 hown hg
      have e8 : 17 + n + k + 4 = 64 * S := by omega
      rw [e8] at hown
      obtain ⟨hx, A8, c8, rfl, hb8, _⟩ := app_step HX.out HO7.out hg hown HLt.out HB7.out.rd.lt
      rw [HZ.out] at hb8
      have HB8 := Lib.hid hb8
      have HE8 := Lib.hid (HE.out.trans hx)
      clear hx hb8 hown hg hsz7 e8
      go_wp2_with fail
      go_ret2
      exact ⟨A8, c8, rfl, by rw [HPL.out]; exact HB8.out, HE8.out⟩

theorem rseal_any (a b c d e s : Int) (A : Option Addr) (n cp : Nat) (body : List Nat) (w : World) (hb : By w A n cp body) :
    Calls Tryd.prog 12 #[.agg #[.int .i64 a, .int .i64 b, .int .i64 c, .int .i64 d, .int .i64 e], .slice A n cp, .int .i64 s] w fun r w' => ∃ A' c', r = .returned (.tuple #[.slice A' (sealL a b c d e body s).length c', .int .i64 (sealE a b c d e n s)]) ∧ By w' A' (sealL a b c d e body s).length c' (sealL a b c d e body s) ∧ Ext w w' := by
  have hlen : body.length = n := Bs.len hb
  by_cases h : roomN s = 0 ∨ mayB a b c d e = false
  · have hE := sealE_arg (n := n) h
    rw [sealL_no (by rw [hlen, hE]; omega), hE]
    exact (rseal_arg a b c d e s A n cp w h).mono fun _ w' ⟨h1, h2⟩ => ⟨none, 0, h1, By.nil_ w', h2⟩
  · have h0 : roomN s ≠ 0 := fun hh => h (.inl hh)
    have hm : mayB a b c d e = true := by
      by_cases hm : mayB a b c d e = true
      · exact hm
      · exact absurd (.inr (by simpa using hm)) h
    by_cases hn : roomN s < n
    · have hE := sealE_long h0 hm hn
      rw [sealL_no (by rw [hlen, hE]; omega), hE]
      exact (rseal_long a b c d e s A n cp w h0 hm hn).mono fun _ w' ⟨h1, h2⟩ => ⟨none, 0, h1, By.nil_ w', h2⟩
    · obtain ⟨S, rfl⟩ := Int.eq_ofNat_of_zero_le (show 0 ≤ s by have := roomN_pos (s := s) (by omega); omega)
      have hE := sealE_yes h0 hm (show n ≤ roomN (S : Int) by omega)
      have hfit := room_fits (show n ≤ roomN (S : Int) by omega) (by omega)
      rw [sealL_yes (by rw [hlen]; exact hE), hE, Int.toNat_natCast, frameL_len (by rw [pl_yes hm, tagBytes_len]) (by omega) (by omega)]
      exact rseal_yes a b c d e S A n cp body w hb h0 hm (by omega)
end Go.Proofs.YtgcjilifmcianaaDoor
