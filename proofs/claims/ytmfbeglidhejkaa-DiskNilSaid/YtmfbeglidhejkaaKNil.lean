/-
  The contracts of the disk's calls at a disk that nobody made: each answers ErrNil and writes nothing.
-/
import Derived.Test.YtmfbeglidhejkaaKReads
import Derived.Test.YtmfbeglidhejkaaKRead
namespace Go.Proofs.Ytmfbeglidhejkaa
open Go Go.RowKit

theorem Unmade.ext {w w' : World} {p : Option Addr} (h : Unmade w p) (k : Ext w w') : Unmade w' p := by
  rcases h with h | ⟨d, hp, hc⟩
  · exact .inl h
  · exact .inr ⟨d, hp, (Below.cell k (p := ⟨d, 0, none⟩) (World.block_lt_of_cell? w _ hc)).trans hc⟩

set_option maxRecDepth 100000 in
set_option maxHeartbeats 800000 in
theorem write_no (p : Option Addr) (s : Int) (A : Option Addr) (n c : Nat) (w : World) (h : Unmade w p) : Calls Try.prog 23 #[.pointer p, .int .i64 s, .slice A n c] w fun e w' => e = .returned (.int .i64 1) ∧ Ext w w' := by
  have H := Lib.hid h
  clear h
  go_enter Try.func23, Try.ntmps23
  go_wp2_with fail
  refine (running_no p _ _ _ _ (H.out.ext ((Ext.refl w).alloc _))).mono ?_
  rintro e w1 ⟨rfl, rfl⟩
  go_wp2_with fail
  go_ret
  exact ⟨rfl, ((Ext.refl w).alloc _)⟩

set_option maxRecDepth 100000 in
set_option maxHeartbeats 800000 in
theorem flush_no (p : Option Addr)  (w : World) (h : Unmade w p) : Calls Try.prog 25 #[.pointer p] w fun e w' => e = .returned (.int .i64 1) ∧ Ext w w' := by
  have H := Lib.hid h
  clear h
  go_enter Try.func25, Try.ntmps25
  go_wp2_with fail
  refine (running_no p _ _ _ _ H.out).mono ?_
  rintro e w1 ⟨rfl, rfl⟩
  go_wp2_with fail
  go_ret
  exact ⟨rfl, Ext.refl _⟩

set_option maxRecDepth 100000 in
set_option maxHeartbeats 800000 in
theorem crash_no (p : Option Addr) (A : Option Addr) (n c : Nat) (w : World) (h : Unmade w p) : Calls Try.prog 28 #[.pointer p, .slice A n c] w fun e w' => e = .returned (.int .i64 1) ∧ Ext w w' := by
  have H := Lib.hid h
  clear h
  go_enter Try.func28, Try.ntmps28
  go_wp2_with fail
  refine (made_no p _ H.out).mono ?_
  rintro e w1 ⟨rfl, rfl⟩
  go_wp2_with fail
  go_ret
  exact ⟨rfl, Ext.refl _⟩

set_option maxRecDepth 100000 in
set_option maxHeartbeats 800000 in
theorem start_no' (p : Option Addr)  (w : World) (h : Unmade w p) : Calls Try.prog 29 #[.pointer p] w fun e w' => e = .returned (.int .i64 1) ∧ Ext w w' := by
  have H := Lib.hid h
  clear h
  go_enter Try.func29, Try.ntmps29
  go_wp2_with fail
  refine (made_no p _ H.out).mono ?_
  rintro e w1 ⟨rfl, rfl⟩
  go_wp2_with fail
  go_ret
  exact ⟨rfl, Ext.refl _⟩

set_option maxRecDepth 100000 in
set_option maxHeartbeats 800000 in
theorem power_no (p : Option Addr) (n : Int) (w : World) (h : Unmade w p) : Calls Try.prog 30 #[.pointer p, .int .i64 n] w fun e w' => e = .returned (.int .i64 1) ∧ Ext w w' := by
  have H := Lib.hid h
  clear h
  go_enter Try.func30, Try.ntmps30
  go_wp2_with fail
  refine (running_no p _ _ _ _ H.out).mono ?_
  rintro e w1 ⟨rfl, rfl⟩
  go_wp2_with fail
  go_ret
  exact ⟨rfl, Ext.refl _⟩

set_option maxRecDepth 100000 in
set_option maxHeartbeats 800000 in
theorem flip_no (p : Option Addr) (s b : Int) (w : World) (h : Unmade w p) : Calls Try.prog 32 #[.pointer p, .int .i64 s, .int .i64 b] w fun e w' => e = .returned (.int .i64 1) ∧ Ext w w' := by
  have H := Lib.hid h
  clear h
  go_enter Try.func32, Try.ntmps32
  go_wp2_with fail
  refine (known_no p _ _ _ _ (H.out.ext ((Ext.refl w).alloc _))).mono ?_
  rintro e w1 ⟨rfl, rfl⟩
  go_wp2_with fail
  go_ret
  exact ⟨rfl, ((Ext.refl w).alloc _)⟩

set_option maxRecDepth 100000 in
set_option maxHeartbeats 800000 in
theorem lose_no (p : Option Addr) (s : Int) (w : World) (h : Unmade w p) : Calls Try.prog 33 #[.pointer p, .int .i64 s] w fun e w' => e = .returned (.int .i64 1) ∧ Ext w w' := by
  have H := Lib.hid h
  clear h
  go_enter Try.func33, Try.ntmps33
  go_wp2_with fail
  refine (known_no p _ _ _ _ (H.out.ext ((Ext.refl w).alloc _))).mono ?_
  rintro e w1 ⟨rfl, rfl⟩
  go_wp2_with fail
  go_ret
  exact ⟨rfl, ((Ext.refl w).alloc _)⟩

set_option maxRecDepth 100000 in
set_option maxHeartbeats 800000 in
theorem stray_no (p : Option Addr) (a b : Int) (w : World) (h : Unmade w p) : Calls Try.prog 34 #[.pointer p, .int .i64 a, .int .i64 b] w fun e w' => e = .returned (.int .i64 1) ∧ Ext w w' := by
  have H := Lib.hid h
  clear h
  go_enter Try.func34, Try.ntmps34
  go_wp2_with fail
  refine (known_no p _ _ _ _ (H.out.ext ((Ext.refl w).alloc _))).mono ?_
  rintro e w1 ⟨rfl, rfl⟩
  go_wp2_with fail
  go_ret
  exact ⟨rfl, ((Ext.refl w).alloc _)⟩

set_option maxRecDepth 100000 in
set_option maxHeartbeats 800000 in
theorem rest_no (p : Option Addr) (s : Int) (w : World) (h : Unmade w p) : Calls Try.prog 20 #[.pointer p, .int .i64 s] w fun e w' => e = .returned (.tuple #[.slice none 0 0, .bool false, .int .i64 1]) ∧ Ext w w' := by
  have H := Lib.hid h
  clear h
  go_enter Try.func20, Try.ntmps20
  go_wp2_with fail
  refine (known_no p _ _ _ _ (H.out.ext ((Ext.refl w).alloc _))).mono ?_
  rintro e w1 ⟨rfl, rfl⟩
  go_wp2_with fail
  refine bodyPost_ret (v := (.tuple #[.slice none 0 0, .bool false, .int .i64 1])) (by simp [results, Try.results20, go_sem]) rfl ?_
  exact ⟨rfl, ((Ext.refl w).alloc _)⟩

set_option maxRecDepth 100000 in
set_option maxHeartbeats 800000 in
theorem meant_no (p : Option Addr) (s : Int) (w : World) (h : Unmade w p) : Calls Try.prog 21 #[.pointer p, .int .i64 s] w fun e w' => e = .returned (.tuple #[.slice none 0 0, .int .i64 1]) ∧ Ext w w' := by
  have H := Lib.hid h
  clear h
  go_enter Try.func21, Try.ntmps21
  go_wp2_with fail
  refine (known_no p _ _ _ _ (H.out.ext ((Ext.refl w).alloc _))).mono ?_
  rintro e w1 ⟨rfl, rfl⟩
  go_wp2_with fail
  refine bodyPost_ret (v := (.tuple #[.slice none 0 0, .int .i64 1])) (by simp [results, Try.results21, go_sem]) rfl ?_
  exact ⟨rfl, ((Ext.refl w).alloc _)⟩

set_option maxRecDepth 100000 in
set_option maxHeartbeats 800000 in
theorem read_no (p : Option Addr) (s : Int) (w : World) (h : Unmade w p) : Calls Try.prog 19 #[.pointer p, .int .i64 s] w fun e w' => e = .returned (.tuple #[.slice none 0 0, .int .i64 1]) ∧ Ext w w' := by
  have hx : Ext w ((((w.alloc (.cells #[.int .i64 s] 3)).alloc (.cells #[.slice none 0 0] 33)).alloc (.cells #[.int .i64 0] 25)).alloc (.cells #[.int .i64 s] 3)) := ((((Ext.refl w).alloc _).alloc _).alloc _).alloc _
  have H := Lib.hid (h.ext hx)
  clear h hx
  refine calls_marks Try.func19 rfl ?_
  simp only [Try.ntmps19, List.size_toArray, List.length_cons, List.length_nil, Nat.reduceAdd, Nat.reduceSub, Array.replicate_succ, Array.replicate_zero, List.push_toArray, List.append_toArray, List.nil_append, List.cons_append]
  go_wp2_with fail
  refine (running_no p _ _ _ _ H.out).mono ?_
  rintro e w1 ⟨rfl, rfl⟩
  go_wp2_with fail
  refine retM0 (v := .tuple #[.slice none 0 0, .int .i64 1]) rfl ?_ ?_
  · simp [results, Try.results19, go_sem]
  · exact ⟨rfl, ((((Ext.refl w).alloc _).alloc _).alloc _).alloc _⟩
end Go.Proofs.Ytmfbeglidhejkaa
