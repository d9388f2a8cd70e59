/-
  The contracts of a sector's flipped, and the disk's Flip.
-/
import Derived.Test.YtldgamgdbneneaaKLose
import Derived.Test.YtldgamgdbneneaaPat
import Derived.Test.YtldgamgdbneneaaFlip
namespace Go.Proofs.Ytldgamgdbneneaa
set_option maxRecDepth 100000
open Go Go.RowKit

set_option maxRecDepth 100000 in
set_option maxHeartbeats 1600000 in
theorem flipped_of (l : List Nat) (p : Nat) (hp : p < 512) (hl : Sect l) (w : World) :
    Calls Try.prog 41 #[.agg (vb l).toArray, .int .i64 (p : Int)] w fun e w' => e = .returned (.agg (vb (flipB l p)).toArray) ∧ Ext w w' := by
  obtain ⟨q, hqe⟩ : ∃ q, p / 8 = q := ⟨_, rfl⟩
  obtain ⟨r, hre⟩ : ∃ r, p % 8 = r := ⟨_, rfl⟩
  obtain ⟨y, hy⟩ : ∃ y, l[q]? = some y := ⟨_, List.getElem?_eq_getElem (by rw [hl.1]; omega)⟩
  have hy2 : y < 256 := hl.2 y (List.mem_of_getElem? hy)
  have hm8 : r < 8 := by omega
  have hx8 := turn_u8 y r hy2 hm8
  have HS : Hid ((vb l).toArray.setIfInBounds q (.int .u8 ((y ^^^ 2 ^ r : Nat) : Int)) = (vb (flipB l p)).toArray) := Lib.hid (by
    rw [flipB_set (by rw [hqe]; exact hy), ← vb_set, hqe, hre]
    simp)
  have HLN : Hid ((flipB l p).length = 64) := Lib.hid (by rw [flipB_length]; exact hl.1)
  have hq : IntKind.i64.wrap ((p : Int) / 8) = (q : Int) := by rw [IntWalk.i64_in _ (by omega)]; omega
  have hrm : (p : Int).tmod 8 = (r : Int) := by rw [Int.tmod_eq_emod_of_nonneg (by omega)]; omega
  have hb0 : (0 : Int) ≤ (q : Int) := by omega
  have hb1 : (q : Int) < 64 := by omega
  have hm0 : (0 : Int) ≤ (r : Int) := by omega
  have hzv := zv_con
  have hr0 : (w.alloc (.cells (vb l).toArray 70)).heap[w.heap.size]? = some (.cells (vb l).toArray 70 (0, 0)) := heap_alloc_new w _
  have hr : ((w.alloc (.cells (vb l).toArray 70)).alloc (.cells zCon 70)).drew.heap[w.heap.size]? = some (.cells (vb l).toArray 70 (0, 0)) := (Below.heap_alloc _ _ _ (by simp)).trans hr0
  have hz0 : ((w.alloc (.cells (vb l).toArray 70)).alloc (.cells zCon 70)).heap[w.heap.size + 1]? = some (.cells zCon 70 (0, 0)) := by
    have := heap_alloc_new (w.alloc (.cells (vb l).toArray 70)) (.cells zCon 70)
    rwa [World.size_alloc] at this
  have hE := (((Ext.refl w).alloc (.cells (vb l).toArray 70)).alloc (.cells zCon 70)).drew
  have hc : ((w.alloc (.cells (vb l).toArray 70)).alloc (.cells zCon 70)).drew.cell? ⟨w.heap.size, q, none⟩ = some (.int .u8 (y : Int)) := by
    rw [cell_of_row _ _ _ _ _ _ hr, List.getElem?_toArray, vb_get, hy]
    rfl
  have hf : ((w.alloc (.cells (vb l).toArray 70)).alloc (.cells zCon 70)).drew.frozen? ⟨w.heap.size, q, none⟩ = false := frozen_of_row _ _ _ _ _ hr
  have hz : ((w.alloc (.cells (vb l).toArray 70)).alloc (.cells zCon 70)).drew.heap[w.heap.size + 1]? = some (.cells zCon 70 (0, 0)) := hz0
  have HR := Lib.hid hr
  have HZ := Lib.hid hz
  have HE := Lib.hid hE
  clear hr hz hE hr0 hz0 hy hqe hre
  go_enter Try.func41, Try.ntmps41
  go_wp2_with fail
  refine still_tail 9 (by kernel_rfl) (by kernel_rfl) ?_
  simp only [List.take_succ_cons, List.take_zero, List.drop_succ_cons, List.drop_zero]
  generalize ((w.alloc (.cells (vb l).toArray 70)).alloc (.cells zCon 70)).drew = w2 at *
  still_step
  still_step
  still_step
  still_step
  still_step
  still_step
  still_step
  still_step
  still_step
  refine wpStill_nil ?_
  have hs := row_set q HR.out (.int .u8 ((y ^^^ 2 ^ r : Nat) : Int)) HS.out
  have hz2 := heap_set (k := q) (x := .int .u8 ((y ^^^ 2 ^ r : Nat) : Int)) (show w.heap.size + 1 ≠ w.heap.size by omega) HZ.out
  have he2 := Below.setCell HE.out (p := ⟨w.heap.size, q, none⟩) (Nat.le_refl _) (.int .u8 ((y ^^^ 2 ^ r : Nat) : Int))
  have HS2 := Lib.hid hs
  have HZ2 := Lib.hid hz2
  have HE2 := Lib.hid he2
  have HRN : Hid ((w2.setCell ⟨w.heap.size, q, none⟩ (.int .u8 ((y ^^^ 2 ^ r : Nat) : Int))).rangeAt w.heap.size 0 (vb (flipB l p))) := Lib.hid (by
    have := World.rangeAt_of_block hs 0 64
    rwa [show ((vb (flipB l p)).toArray.extract 0 (0 + 64)).toList = vb (flipB l p) by simp [List.take_of_length_le, vb_length, HLN.out]] at this)
  have HTH : Hid ((w2.setCell ⟨w.heap.size, q, none⟩ (.int .u8 ((y ^^^ 2 ^ r : Nat) : Int))).there (w.heap.size + 1) 0 (vb (flipB l p)).toArray.size) := Lib.hid (there_of hz2 0 _ (by rw [List.size_toArray, vb_length, HLN.out, zCon_size]; omega))
  have HSZ : Hid ((Try.prog.info? 70).map (·.size) = some (vb (flipB l p)).toArray.size) := Lib.hid (by rw [sz_con, List.size_toArray, vb_length, HLN.out])
  clear hs hz2 he2
  go_wp2_with (first
    | (rw [hx8]; refine wl_con rfl _ rfl w.heap.size 0 rfl (vb (flipB l p)) HRN.out (by rw [vb_length]; exact HLN.out) ?_)
    | (refine wpList_store_mid rfl 70 _ _ rfl (w.heap.size + 1) 0 (vb (flipB l p)).toArray rfl rfl HTH.out HSZ.out (all_oneCell_toArray (vb_one _)) ?_))
  obtain ⟨cs', h1, h2, h3, _⟩ := heap_setCells (vb (flipB l p)) 0 HZ2.out (by rw [vb_length, HLN.out, zCon_size]; omega)
  have hcs : cs' = (vb (flipB l p)).toArray := by
    apply Array.ext_getElem?
    intro i
    by_cases hi : i < 64
    · obtain ⟨v, hv⟩ : ∃ v, (vb (flipB l p))[i]? = some v := ⟨_, List.getElem?_eq_getElem (by rw [vb_length, HLN.out]; exact hi)⟩
      have e2 : (vb (flipB l p)).toArray[i]? = some v := by rw [List.getElem?_toArray]; exact hv
      have e3 := h3 i v hv
      rw [Nat.zero_add] at e3
      rw [e2, e3]
    · rw [Array.getElem?_eq_none (by rw [h2, zCon_size]; omega), Array.getElem?_eq_none (by rw [List.size_toArray, vb_length, HLN.out]; omega)]
  subst hcs
  refine bodyPost_ret (results_cell_row rfl _ _ (w.heap.size + 1) _ _ _ _ rfl h1 Try.underlying70 rfl HSZ.out) rfl ?_
  exact ⟨rfl, (Mod.of_ext (F := fun i => i = w.heap.size + 1) HE2.out).then (mod_setCells _ _ _ _) |>.to_ext fun i hi => by omega⟩

theorem flip_eq (m : DM) (s b : Int) : m.flip s b = if m.has s = false ∨ b < 0 then (2, m) else (0, { m with rest := m.rest.set s.toNat (flipB (m.rest.getD s.toNat []) (b.toNat % 512)) }) := rfl
set_option maxRecDepth 100000 in
set_option maxHeartbeats 1600000 in
theorem flip_of {w : World} {d g : Nat} {pv : Value} {m : DM} (h : PD w d g pv m) (s b : Int) (hb63 : b ≤ 9223372036854775807) :
    Calls Try.prog 17 #[.pointer (some ⟨d, 0, none⟩), .int .i64 s, .int .i64 b] w fun e w' => e = .returned (.int .i64 (m.flip s b).1) ∧ PD w' d g pv (m.flip s b).2 ∧ Mod (fun i => i = g) w w' := by
  have hx := (Ext.refl w).alloc (.cells #[.int .i64 s] 3)
  have h1 := h.ext hx
  have hz := ZsAt.one w s 3
  have hk := known_of h1 _ 1 1 [s] hz
  rw [known_one] at hk
  have HX := Lib.hid hx
  have H1 := Lib.hid h1
  have HP := Lib.hid (flip_eq m s b)
  have HO := Lib.hid (DM.flip_ok h.ok s b)
  clear h h1 hx hz
  by_cases hh : m.has s = false
  · have HP1 : Hid (m.flip s b = (2, m)) := Lib.hid (by rw [HP.out, if_pos (.inl hh)])
    rw [if_pos hh] at hk
    have HK := Lib.hid hk
    clear hk hh HP
    go_enter Try.func17, Try.ntmps17
    go_wp2_with fail
    refine HK.out.mono ?_
    rintro e w1 ⟨rfl, rfl⟩
    go_wp2_with fail
    go_ret
    exact ⟨by rw [HP1.out]; rfl, by rw [HP1.out]; exact H1.out, Mod.of_ext HX.out⟩
  · rw [if_neg hh] at hk
    have HK := Lib.hid hk
    by_cases hb : b < 0
    · have HP1 : Hid (m.flip s b = (2, m)) := Lib.hid (by rw [HP.out, if_pos (.inr hb)])
      clear hk hh HP
      go_enter Try.func17, Try.ntmps17
      go_wp2_with fail
      refine HK.out.mono ?_
      rintro e w1 ⟨rfl, rfl⟩
      go_wp2_with fail
      go_ret
      exact ⟨by rw [HP1.out]; rfl, by rw [HP1.out]; exact H1.out, Mod.of_ext HX.out⟩
    · obtain ⟨b, rfl⟩ := Int.eq_ofNat_of_zero_le (show 0 ≤ b by omega)
      have HP1 : Hid (m.flip s (b : Int) = (0, { m with rest := m.rest.set s.toNat (flipB (m.rest.getD s.toNat []) (b % 512)) })) := Lib.hid (by rw [HP.out, if_neg (by intro hc; exact hc.elim hh hb)]; rw [Int.toNat_natCast])
      have hhas : m.has s = true := by simpa using hh
      obtain ⟨hs0, hs1⟩ := DM.has_iff.1 hhas
      obtain ⟨k, rfl⟩ := Int.eq_ofNat_of_zero_le hs0
      have hks : k < m.size := by omega
      rw [Int.toNat_natCast] at HP1
      obtain ⟨q, hq⟩ : ∃ q, b % 512 = q := ⟨_, rfl⟩
      have hq512 : q < 512 := by omega
      rw [hq] at HP1
      have hrm : (b : Int).tmod 512 = (q : Int) := by rw [Int.tmod_eq_emod_of_nonneg (by omega)]; omega
      clear hk hh hhas HP hq
      have hfl := flipped_of (m.rest.getD k []) q hq512 (H1.out.ok.rest_at hks)
      have HFL := Lib.hid hfl
      clear hfl
      go_enter Try.func17, Try.ntmps17
      go_wp2_with fail
      refine HK.out.mono ?_
      rintro e w1 ⟨rfl, rfl⟩
      obtain ⟨⟨c0, c1, c2, c3, c4⟩, f0, f1, f2, f3, f4⟩ := H1.out.cells
      have hr := H1.out.med.range hks
      have hm : (w.alloc (.cells #[.int .i64 (k : Int)] 3)).rangeAt g (k * 129) (vb (m.rest.getD k [])) := fun j v hv => by
        have hj : j < (vb (m.rest.getD k [])).length := (List.getElem?_eq_some_iff.1 hv).1
        refine hr j v ?_
        rw [sec_cut, List.getElem?_append_left hj]
        exact hv
      have HR := Lib.hid hm
      have HSR := Lib.hid (H1.out.ok.rest_at hks)
      generalize w.alloc (.cells #[.int .i64 (k : Int)] 3) = w1 at *
      clear hr hm f0 f1 f2 f3 f4 c0 c1 c2 c4
      go_wp2_with (first
        | (refine wl_con rfl _ rfl g (k * 129) rfl _ HR.out (by rw [vb_length]; exact HSR.out.1) ?_))
      refine (HFL.out _).mono ?_
      rintro e w2 ⟨rfl, hx2⟩
      have HX2 := Lib.hid (HX.out.trans hx2)
      have H2 := Lib.hid (H1.out.ext hx2)
      obtain ⟨cur, hg, hsz, hcur⟩ := H2.out.med
      have hle : (k + 1) * 129 ≤ m.size * 129 := Nat.mul_le_mul_right _ hks
      have hln : (flipB (m.rest.getD k []) q).length = 64 := by rw [flipB_length]; exact HSR.out.1
      have HLN := Lib.hid hln
      have HTH : Hid (w2.there g (k * 129) (vb (flipB (m.rest.getD k []) q)).toArray.size) := Lib.hid (there_of hg _ _ (by rw [List.size_toArray, vb_length, hln, hsz]; omega))
      have HSZ : Hid ((Try.prog.info? 70).map (·.size) = some (vb (flipB (m.rest.getD k []) q)).toArray.size) := Lib.hid (by rw [sz_con, List.size_toArray, vb_length, hln])
      clear hx2 hg hsz hcur hle hln
      go_wp2_with (refine wpList_store_mid rfl 70 _ _ rfl g (k * 129) (vb (flipB (m.rest.getD k []) q)).toArray rfl rfl HTH.out HSZ.out (all_oneCell_toArray (vb_one _)) ?_)
      go_ret
      have hm2 : Mod (fun i => i = g) w2 (w2.setCells g (k * 129) (vb (flipB (m.rest.getD k []) q))) := mod_setCells _ _ _ _
      have hml := (H2.out.ok.meant_at hks).1
      have hrl := HSR.out.1
      refine ⟨by rw [HP1.out]; rfl, ?_, (Mod.of_ext HX2.out).then hm2⟩
      have hO := HO.out
      rw [HP1.out] at hO ⊢
      have hsec : ∀ i, ({ m with rest := m.rest.set k (flipB (m.rest.getD k []) q) } : DM).sec i = if i = k then secC (flipB (m.rest.getD k []) q) (m.meant.getD k []) (m.lost.getD k false) else m.sec i := fun i => by
        unfold DM.sec
        by_cases e : k = i
        · subst e
          rw [if_pos rfl]
          simp only
          rw [getD_set (show k < m.rest.length from hks), if_pos rfl]
        · rw [if_neg fun h => e h.symm]
          simp only
          rw [getD_set_ne e]
      have hsz' : ({ m with rest := m.rest.set k (flipB (m.rest.getD k []) q) } : DM).size = m.size := by simp [DM.size]
      refine H2.out.sec_turned hm2 _ hO hsz' ?_ rfl rfl rfl rfl
      refine H2.out.med.set (m' := { m with rest := m.rest.set k (flipB (m.rest.getD k []) q) }) hks 0 (vb (flipB (m.rest.getD k []) q)) hsz' (by rw [vb_length, HLN.out]; omega) (fun i hi hne => by rw [hsec, if_neg hne]) (fun i hi => by
        rw [hsec]
        split
        · exact secC_len HLN.out hml
        · exact H2.out.ok.sec_len hi) (fun j v hv => ?_)
      rw [hsec, if_pos rfl] at hv
      rcases secC_get HLN.out hml j v hv with ⟨a1, a2⟩ | ⟨a1, a2, a3⟩ | ⟨rfl, rfl⟩
      · rw [if_pos ⟨by omega, by rw [vb_length, HLN.out]; omega⟩]
        exact a2
      · rw [if_neg (by rw [vb_length, HLN.out]; omega)]
        exact secC_mk hrl hml j v (.inr (.inl ⟨a1, a2, a3⟩))
      · rw [if_neg (by rw [vb_length, HLN.out]; omega)]
        exact secC_mk hrl hml 128 _ (.inr (.inr ⟨rfl, rfl⟩))
end Go.Proofs.Ytldgamgdbneneaa
