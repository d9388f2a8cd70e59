/-
  The contract of the statements' Do at a disk that nobody made.
-/
import Derived.Test.YtmfbeglidhejkaaKNil
namespace Go.Proofs.Ytmfbeglidhejkaa
open Go Go.RowKit

set_option maxRecDepth 100000 in
set_option maxHeartbeats 6400000 in
theorem do_no {w : World} (p : Option Addr) (h : Unmade w p) (a : Act5) (ha : a.Ok w w.heap.size) (hn : a.bn ≤ 140737488355328) :
    Calls Try.prog 14 #[.pointer p, actV a] w fun e w' => e = .returned (.int .i64 1) ∧ Ext w w' := by
  unfold actV
  have hE := (Ext.refl w).alloc (.cells #[.int .u8 (a.kind : Int), .int .i64 a.sec, .int .i64 a.num, .slice a.bA a.bn a.bc, .slice a.kA a.kn a.kc] 36)
  have H := Lib.hid (h.ext hE)
  have HA := Lib.hid (ha.ext hE)
  have HE := Lib.hid hE
  obtain ⟨r, hr⟩ : ∃ r, a.kind % 9 = r := ⟨_, rfl⟩
  have hr9 : r < 9 := by omega
  have hrm : ((a.kind : Nat) : Int).tmod 9 = (r : Int) := by rw [Int.tmod_eq_emod_of_nonneg (by omega)]; omega
  clear h ha hE hr
  have hcases : r = 0 ∨ r = 1 ∨ r = 2 ∨ r = 3 ∨ r = 4 ∨ r = 5 ∨ r = 8 ∨ (r = 6 ∨ r = 7) := by omega
  rcases hcases with e | e | e | e | e | e | e | e
  · subst e
    go_enter Try.func14, Try.ntmps14
    go_wp2_with fail
    refine (flush_no p _ H.out).mono ?_
    rintro e w2 ⟨rfl, hx⟩
    have HX := Lib.hid (HE.out.trans hx)
    clear hx
    go_wp2_with fail
    go_ret
    exact ⟨rfl, HX.out⟩
  · subst e
    go_enter Try.func14, Try.ntmps14
    go_wp2_with fail
    refine (crash_no p a.kA a.kn a.kc _ H.out).mono ?_
    rintro e w2 ⟨rfl, hx⟩
    have HX := Lib.hid (HE.out.trans hx)
    clear hx
    go_wp2_with fail
    go_ret
    exact ⟨rfl, HX.out⟩
  · subst e
    go_enter Try.func14, Try.ntmps14
    go_wp2_with fail
    refine (start_no' p _ H.out).mono ?_
    rintro e w2 ⟨rfl, hx⟩
    have HX := Lib.hid (HE.out.trans hx)
    clear hx
    go_wp2_with fail
    go_ret
    exact ⟨rfl, HX.out⟩
  · subst e
    go_enter Try.func14, Try.ntmps14
    go_wp2_with fail
    refine (flip_no p a.sec a.num _ H.out).mono ?_
    rintro e w2 ⟨rfl, hx⟩
    have HX := Lib.hid (HE.out.trans hx)
    clear hx
    go_wp2_with fail
    go_ret
    exact ⟨rfl, HX.out⟩
  · subst e
    go_enter Try.func14, Try.ntmps14
    go_wp2_with fail
    refine (lose_no p a.sec _ H.out).mono ?_
    rintro e w2 ⟨rfl, hx⟩
    have HX := Lib.hid (HE.out.trans hx)
    clear hx
    go_wp2_with fail
    go_ret
    exact ⟨rfl, HX.out⟩
  · subst e
    go_enter Try.func14, Try.ntmps14
    go_wp2_with fail
    refine (stray_no p a.sec a.num _ H.out).mono ?_
    rintro e w2 ⟨rfl, hx⟩
    have HX := Lib.hid (HE.out.trans hx)
    clear hx
    go_wp2_with fail
    go_ret
    exact ⟨rfl, HX.out⟩
  · subst e
    go_enter Try.func14, Try.ntmps14
    go_wp2_with fail
    refine (power_no p a.num _ H.out).mono ?_
    rintro e w2 ⟨rfl, hx⟩
    have HX := Lib.hid (HE.out.trans hx)
    clear hx
    go_wp2_with fail
    go_ret
    exact ⟨rfl, HX.out⟩
  · have hw67 := e
    have g0 : ((r : Int) == 0) = false := by rw [beq_eq_false_iff_ne]; omega
    have g1 : ((r : Int) == 1) = false := by rw [beq_eq_false_iff_ne]; omega
    have g2 : ((r : Int) == 2) = false := by rw [beq_eq_false_iff_ne]; omega
    have g3 : ((r : Int) == 3) = false := by rw [beq_eq_false_iff_ne]; omega
    have g4 : ((r : Int) == 4) = false := by rw [beq_eq_false_iff_ne]; omega
    have g5 : ((r : Int) == 5) = false := by rw [beq_eq_false_iff_ne]; omega
    have g8 : ((r : Int) == 8) = false := by rw [beq_eq_false_iff_ne]; omega
    clear e hw67
    go_enter Try.func14, Try.ntmps14
    go_wp2_with fail
    refine (sector_of a _ HA.out hn).mono ?_
    rintro e w1 ⟨A, n, c, rfl, hown, hx⟩
    have hrow := heap_alloc_new w (.cells #[.int .u8 (a.kind : Int), .int .i64 a.sec, .int .i64 a.num, .slice a.bA a.bn a.bc, .slice a.kA a.kn a.kc] 36)
    have hc1 := cell_of_row w1 _ 1 _ _ _ ((hx.block _ (Array.getElem?_eq_some_iff.1 hrow).1).trans hrow)
    have hsz1 : w.heap.size + 1 ≤ w1.heap.size := by have := hx.size; simpa using this
    have hbs := Bs.of_own hown (actB_lt HA.out.bytes.rd.lt)
    have hfresh : ∀ g, (Value.slice A n c).ownBlock = some g → w.heap.size + 1 ≤ g ∧ g < w1.heap.size := fun g hg => by
      have := hown.lt g hg
      simpa using this
    have HOW := Lib.hid hown
    have HX := Lib.hid hx
    have HFR := Lib.hid hfresh
    have H1 := Lib.hid (H.out.ext hx)
    have HB0 : Hid (∀ x ∈ actB a.num a.bl, x < 256) := Lib.hid (actB_lt HA.out.bytes.rd.lt)
    have hcap := (Bs.cap hbs)
    have hmost := (Bs.most hbs)
    clear hown hx hbs hfresh hrow
    go_wp2_with fail
    refine (write_no p a.sec A n c _ H1.out).mono ?_
    rintro e w2 ⟨rfl, hx2⟩
    have hown2 : w2.ownsRow (w.heap.size + 1) 5 1 (.slice A n c) n (vb (actB a.num a.bl)) := own_base5 (own_mod (F := fun _ => False) HOW.out (Mod.of_ext hx2) (fun _ _ h => h)) (by simp)
    have HO2 := Lib.hid hown2
    have HX2 := Lib.hid ((HE.out.trans HX.out).trans hx2)
    clear hx2 hown2 hc1
    go_wp2_with fail
    go_loopw [7] (fun i wr => ∃ k : Nat, k ≤ n ∧ i = .int .i64 k ∧ (∃ l : List Nat, (∀ x ∈ l, x < 256) ∧ Hid (wr.ownsRow (w.heap.size + 1) 5 1 (.slice A n c) n (vb l))) ∧ Hid (Mod (fun k => w.heap.size ≤ k ∧ k < w1.heap.size) w2 wr)) (fun i _ => n - (intOf i).toNat)
    case atStart => exact ⟨0, Nat.zero_le _, rfl, ⟨_, HB0.out, HO2⟩, Lib.hid (Mod.refl _ _)⟩
    case round =>
      obtain ⟨k, hk, rfl, ⟨l, hl, HO⟩, HM⟩ := hrel
      by_cases hlt : k < n
      · obtain ⟨g, cap, hv⟩ := Go.Joins.ownsRow_form HO.out (by omega)
        injection hv with hA _ hc
        subst hA; subst hc
        have hll : l.length = n := by
          have := HO.out.1
          rwa [vb_length, Nat.mul_one] at this
        obtain ⟨x, hx⟩ : ∃ x, l[k]? = some x := ⟨_, List.getElem?_eq_getElem (by omega)⟩
        have hcx : wr.cell? ⟨g, k, none⟩ = some (.int .u8 (x : Int)) := by
          rw [HO.out.cellAt k (by omega), vb_get, hx]
          rfl
        have hfz := HO.out.frozenAt k
        have hx2 : x < 256 := hl x (List.mem_of_getElem? hx)
        obtain ⟨y, hy⟩ : ∃ y : Nat, IntKind.u8.wrap ((x : Int) + 1) = (y : Int) := ⟨((x + 1) % 256), by rw [IntKind.wrap_u8]; omega⟩
        have hy2 : y < 256 := by rw [IntKind.wrap_u8] at hy; omega
        have hgf := HFR.out g rfl
        have HL := Lib.hid hl
        clear hx hl hll
        go_wp2_with fail
        go_roundw
        case rel =>
          refine ⟨k + 1, by omega, by go_num, ⟨l.set k y, fun z hz => ?_, Lib.hid ?_⟩, Lib.hid (HM.out.setCell (p := ⟨g, k, none⟩) (.inl ⟨by show w.heap.size ≤ g; omega, hgf.2⟩) _)⟩
          · rcases List.mem_or_eq_of_mem_set hz with h | h
            · exact HL.out z h
            · rw [h]; exact hy2
          · have hs := (HO.out.stored k (.int .u8 (y : Int))).1
            rw [show (vb l).set k (.int .u8 (y : Int)) = vb (l.set k y) by unfold vb; rw [List.map_set]] at hs
            exact hs
        case measure => simp [intOf]; omega
      · go_wp2_with fail
        go_ret
        exact ⟨rfl, Below.mod HX2.out HM.out HX2.out.size fun i hi => hi.1⟩
end Go.Proofs.Ytmfbeglidhejkaa
