/-
  The contract of the disk's New.
-/
import Derived.Test.YtldgamgdbneneaaKFlush
namespace Go.Proofs.Ytldgamgdbneneaa
set_option maxRecDepth 100000
open Go Go.RowKit

theorem disk_built (n : Nat) (g : Nat) : ∀ w, (Instr.build 48 #[(2, .int .i64 (-1)), (3, .slice (some ⟨g, 0, none⟩) n n)]).run Try.prog w = .ok (.agg #[.pointer none, .int .u8 0, .int .i64 (-1), .slice (some ⟨g, 0, none⟩) n n, .slice none 0 0]) w := fun w => run_build w _ _ _ (by kernel_rfl)
theorem medsl_info : (Try.prog.info? 76).map (fun i => (i.zero, i.size, i.bytes)) = some (some (.agg zMed), 129, 129) := by kernel_rfl
/-- A new row of zero sectors. -/
def mrow (n : Nat) : Obj := .cells (madeCells zMed (n * 129)) 76
theorem mk_med (n : Nat) (hn : n ≤ 1024) (w : World) : (Instr.makeSlice 45 (.int .i64 (n : Int)) (.int .i64 (n : Int))).run Try.prog w = .ok (.slice (some ⟨w.heap.size, 0, none⟩) n n) (w.alloc (mrow n)) := by
  obtain ⟨i0, hi, hz0, hz1, hz2⟩ := info_parts medsl_info
  rw [run_make w 45 76 i0 (.agg zMed) Try.underlying45 hi hz0 .i64 .i64 (n : Int) (n : Int) (by omega) (Int.le_refl _) (by rw [hz2]; omega) (by omega), Int.toNat_natCast]
  rw [hz1]
  rfl
theorem new_sec (n s : Nat) (hs : s < n) : (DM.new n).sec s = secC z64 z64 false := by
  have h : ∀ {α : Type} (x d : α), (List.replicate n x).getD s d = x := fun x d => by
    rw [List.getD_eq_getElem?_getD, List.getElem?_replicate, if_pos hs]; rfl
  unfold DM.sec DM.new
  simp only
  rw [h, h]
theorem new_size (n : Nat) : (DM.new n).size = n := by simp [DM.new, DM.size]
theorem MedAt.new_ {w : World} {g n : Nat} (h : w.heap[g]? = some (mrow n)) : MedAt w g (DM.new n) := by
  refine ⟨_, h, by rw [size_madeCells, new_size], fun s hs j v hv => ?_⟩
  rw [new_size] at hs
  rw [new_sec n s hs] at hv
  have hl : (secC z64 z64 false).length = 129 := by simp [secC, vb_length, z64]
  have hj : j < 129 := by rw [← hl]; exact (List.getElem?_eq_some_iff.1 hv).1
  have hle : (s + 1) * 129 ≤ n * 129 := Nat.mul_le_mul_right _ hs
  unfold madeCells
  rw [Array.getElem?_map, Array.getElem?_range, if_pos (by omega)]
  show some (zMed[(s * 129 + j) % zMed.size]!) = some v
  rw [zMed_size, show (s * 129 + j) % 129 = j by omega]
  have : zMed[j]? = some v := by unfold zMed; rw [List.getElem?_toArray]; exact hv
  rw [getElem!_def, this]
theorem new_pd {w : World} {d g n : Nat} (hn : 1 ≤ n ∧ n ≤ 1024) (hg : w.heap[g]? = some (mrow n)) (hd : w.heap[d]? = some (.cells #[.pointer (some ⟨d, 0, none⟩), .int .u8 0, .int .i64 (-1), .slice (some ⟨g, 0, none⟩) n n, .slice none 0 0] 48 (0, 0))) (hne : d ≠ g) : PD w d g (.slice none 0 0) (DM.new n) :=
  ⟨DM.new_ok n, by rw [new_size]; exact hn, by show (-1 : Int) ≤ _; omega, by rw [new_size]; exact hd, MedAt.new_ hg, World.ownsRow_nil _ _ _ _, hne, fun k hk => (by cases hk)⟩

set_option maxRecDepth 100000 in
set_option maxHeartbeats 1600000 in
theorem new_yes (n : Nat) (w : World) (h1 : 1 ≤ n) (h2 : n ≤ 1024) :
    Calls Try.prog 5 #[.int .i64 (n : Int)] w fun e w' => ∃ d g, e = .returned (.tuple #[.pointer (some ⟨d, 0, none⟩), .int .i64 0]) ∧ PD w' d g (.slice none 0 0) (DM.new n) ∧ w.heap.size ≤ d ∧ w.heap.size ≤ g ∧ Ext w w' := by
  have hmk := mk_med n h2
  have hbd := disk_built n w.heap.size
  go_enter Try.func5, Try.ntmps5
  go_wp2_with fail
  go_ret2
  have hg1 : (w.alloc (mrow n)).heap[w.heap.size]? = some (mrow n) := heap_alloc_last w _
  have hsz : (w.alloc (mrow n)).heap.size = w.heap.size + 1 := by simp
  refine ⟨w.heap.size + 1, w.heap.size, rfl, new_pd ⟨h1, h2⟩ ?_ ?_ (by omega), by omega, Nat.le_refl _, ((Ext.refl w).alloc _).alloc _⟩
  · exact (Below.heap_alloc _ _ _ (by omega)).trans hg1
  · have := heap_alloc_last (w.alloc (mrow n)) (.cells #[.pointer (some ⟨w.heap.size + 1, 0, none⟩), .int .u8 0, .int .i64 (-1), .slice (some ⟨w.heap.size, 0, none⟩) n n, .slice none 0 0] 48)
    rwa [hsz] at this
theorem new_no (s : Int) (w : World) (h : s < 1 ∨ 1024 < s) :
    Calls Try.prog 5 #[.int .i64 s] w fun e w' => e = .returned (.tuple #[.pointer none, .int .i64 2]) ∧ w = w' := by
  rcases h with h | h
  · go_enter Try.func5, Try.ntmps5
    go_wp2_with fail
    go_ret2
    exact ⟨rfl, rfl⟩
  · go_enter Try.func5, Try.ntmps5
    go_wp2_with fail
    go_ret2
    exact ⟨rfl, rfl⟩
end Go.Proofs.Ytldgamgdbneneaa
