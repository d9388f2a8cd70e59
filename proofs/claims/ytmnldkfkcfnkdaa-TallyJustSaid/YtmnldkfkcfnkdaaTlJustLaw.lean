/-
  Each slot behind from, up to Upto, has been accepted by a majority, and the next one hasn't: the law's walk.
-/
import Derived.Test.YtmnldkfkcfnkdaaTlMoreLaw
import Derived.Deep.DeepCutAuto
import Derived.Deep.RegionHeld
namespace Go.Proofs.Ytmnldkfkcfnkdaa
open Go Go.RowKit Go.Maps

def arrT (L : List (Int × Nat)) : Array Value := ((List.range 80).map fun j : Nat => Value.int .u8 (lookT L (j : Int) : Int)).toArray
theorem arrT_at (L : List (Int × Nat)) {j : Nat} (hj : j < 80) : (arrT L)[j]? = some (.int .u8 (lookT L (j : Int) : Int)) := by
  unfold arrT
  simp [hj]
theorem arrT_set {L : List (Int × Nat)} {i : Nat} {s : Nat} (hi : i < 80) : (arrT L).setIfInBounds i (.int .u8 (s : Int)) = arrT (setT L (i : Int) s) := by
  refine Array.ext_getElem? fun j => ?_
  rw [Array.getElem?_setIfInBounds]
  by_cases hj : j < 80
  · rw [arrT_at _ hj, arrT_at _ hj, lookT_set]
    by_cases hij : i = j
    · subst hij
      rw [if_pos rfl, if_pos (by unfold arrT; simpa using hi), if_pos rfl]
    · rw [if_neg hij, if_neg (by omega)]
  · have h1 : ∀ M, (arrT M)[j]? = none := fun M => by
      unfold arrT
      simp
      omega
    rw [h1, h1]
    split
    · rename_i e
      omega
    · rfl
theorem zeroA (w : World) : (zeroValue 46).run Try.prog w = .ok (.agg (arrT [])) w := by kernel_rfl
set_option maxRecDepth 100000 in
set_option maxHeartbeats 3200000 in
theorem tallyJust_law (n : Int) (A : Option Addr) (m c : Nat) (l : List PairT) (a : Int) (w : World) (_ : (Lit.int .i64 n).wf = true) (hl : Ls PairT.cells 2 w w.heap.size A m c l ∧ ∀ p ∈ l, (Lit.int .i64 p.i).wf = true ∧ (Lit.int .i64 p.r).wf = true) (ha : (Lit.int .i64 a).wf = true) :
    Calls Try.prog 5 #[.int .i64 n, .slice A m c, .int .i64 a] w fun e w' => e = .returned (.bool true) ∧ Below w.heap.size w w' := by
  show Calls Try.prog 5 #[.int .i64 n, .slice A m c, .int .i64 a] w fun e w' => e = .returned (.bool true) ∧ Ext w w'
  obtain ⟨h, -⟩ := hl
  have hza := zeroA
  have hcap := h.cap
  have hmost := h.most
  have H := Lib.hid h
  have HWA := Lib.hid ha
  clear h ha
  go_enter Try.func5, Try.ntmps5
  go_wp2_with fail
  refine (tawake_any _).mono ?_
  rintro e w1 ⟨rfl, hx⟩
  have HX := Lib.hid hx
  clear hx
  go_wp2_with fail
  refine (tof_of n _).mono ?_
  rintro e w2 ⟨⟨N, rfl, hN⟩, rfl⟩
  have HN := Lib.hid hN
  clear hN
  go_wp2_with fail
  refine (tnear_of (N : Int) (H.out.below HX.out)).mono ?_
  rintro e w2 ⟨⟨b, rfl, hb⟩, rfl⟩
  cases b with
  | false =>
    go_wp2_with fail
    go_ret
    exact ⟨rfl, HX.out⟩
  | true =>
  obtain ⟨hm, hnr⟩ := hb rfl
  have HNR := Lib.hid hnr
  clear hb hnr
  by_cases q1 : a < 0
  · have d1 : decide (a < 0) = true := decide_eq_true q1
    go_wp2_with fail
    go_ret
    exact ⟨rfl, HX.out⟩
  by_cases q2 : 70 < a
  · have d1 : decide (a < 0) = false := decide_eq_false q1
    have d2 : decide (70 < a) = true := decide_eq_true q2
    go_wp2_with fail
    go_ret
    exact ⟨rfl, HX.out⟩
  have d1 : decide (a < 0) = false := decide_eq_false q1
  have d2 : decide (70 < a) = false := decide_eq_false q2
  go_wp2_with fail
  refine (tnoted_of HN.out ((H.out.below HX.out).upT HX.out.size) HNR.out).mono ?_
  rintro e w3 ⟨p2, b2, rfl, hz2, hx, hq1, hq2⟩
  have HZ := Lib.hid hz2
  have HX := Lib.hid (HX.out.trans hx)
  clear hz2 hx hq1 hq2
  go_upto_region 10 with (fail)
  have hrow0 := heap_alloc_new w3 (.cells (arrT []) 46)
  have hx0 : Ext w3 (w3.alloc (.cells (arrT []) 46)) := (Ext.refl _).alloc _
  generalize w3.alloc (.cells (arrT []) 46) = V at *
  obtain ⟨b8, hb8⟩ : ∃ b8, w3.heap.size = b8 := ⟨_, rfl⟩
  rw [hb8] at hrow0 ⊢
  have HR0 := Lib.hid hrow0
  have HB8 : Hid (w.heap.size ≤ b8 ∧ b8 ≠ p2 ∧ b8 ≠ b2) := Lib.hid ⟨by have := HX.out.size; omega, by have := HZ.out.lt; omega, by have := HZ.out.map.lt; omega⟩
  have HZ := Lib.hid (HZ.out.ext hx0)
  have HX := Lib.hid (HX.out.trans hx0)
  clear hrow0 hx0 hb8 hza
  go_wp2_with fail
  go_loopw [9] (fun v wr => ∃ k : Nat, k ≤ m ∧ v = .int .i64 (k : Int) ∧ Hid (wr.heap[b8]? = some (.cells (arrT (foldT (N : Int) (l.take k))) 46 (0, 0))) ∧ Hid (Mod (fun j => j = b8) V wr)) (fun v _ => m - (intOf v).toNat)
  case atStart => exact ⟨0, Nat.zero_le _, rfl, Lib.hid (by rw [List.take_zero]; exact HR0.out), Lib.hid (Mod.refl _ _)⟩
  case round =>
    obtain ⟨k, hk, rfl, HR, HM⟩ := hrel
    have hxw : Ext w wr := Below.mod HX.out HM.out HX.out.size (fun j hj => by have := HB8.out; omega)
    by_cases hlt : k < m
    · obtain ⟨g, o, p, rfl, hg, hp, c0, c1⟩ := (H.out.below hxw).pair hlt
      have hpn := HNR.out.at_ hp
      have hinv := (HNR.out.take k).inv (by have := HN.out; omega)
      have herr := hinv.err hpn
      have hft := foldT_take (n := (N : Int)) hp
      rw [noteT_yes herr] at hft
      obtain ⟨i, r⟩ := p
      dsimp only at hft hpn c0 c1
      obtain ⟨iN, rfl⟩ := Int.eq_ofNat_of_zero_le (show 0 ≤ i by omega)
      have hi80 : (iN : Int) < 80 := by omega
      have hi80n : iN < 80 := by omega
      have HADD := Lib.hid (fun W => add_of (lookT (foldT (N : Int) (l.take k)) (iN : Int)) (hinv.ok.look_lt _) r W)
      have cs : wr.drew.cell? ⟨b8, iN, none⟩ = some (.int .u8 (lookT (foldT (N : Int) (l.take k)) (iN : Int) : Int)) := cell_of_row wr b8 iN _ _ _ HR.out |>.trans (arrT_at _ hi80n)
      have fs : wr.drew.frozen? ⟨b8, iN, none⟩ = false := frozen_of_row wr b8 iN _ _ HR.out
      have HS : ∀ x : Nat, Hid ((wr.drew.setCell ⟨b8, iN, none⟩ (.int .u8 (x : Int))).heap[b8]? = some (.cells (arrT (setT (foldT (N : Int) (l.take k)) (iN : Int) x)) 46 (0, 0))) := fun x => Lib.hid (row_setQ (w := wr.drew) iN HR.out _ (arrT_set hi80n))
      have hG : g ≠ b8 := by have := HB8.out.1; omega
      have HG := Lib.hid hG
      have hS1 : wr.drew.cell? ⟨g, o + k * 2, none⟩ = some (.int .i64 (iN : Int)) := c0
      have hS2 : wr.drew.cell? ⟨g, o + k * 2 + 1, none⟩ = some (.int .i64 r) := c1
      have HKs : ∀ x : Value, Hid ((wr.setCell ⟨b8, iN, none⟩ x).drew.cell? ⟨g, o + k * 2, none⟩ = some (.int .i64 (iN : Int)) ∧ (wr.setCell ⟨b8, iN, none⟩ x).drew.cell? ⟨g, o + k * 2 + 1, none⟩ = some (.int .i64 r)) := fun x => Lib.hid (by
        have hm : Mod (fun j => j = b8) wr.drew (wr.drew.setCell ⟨b8, iN, none⟩ x) := Mod.setCell (F := fun j => j = b8) (Mod.refl _ _) (p := ⟨b8, iN, none⟩) (.inl rfl) x
        exact ⟨mod_cellT hm hG hS1, mod_cellT hm hG hS2⟩)
      have HFT := Lib.hid hft
      obtain ⟨s, hs⟩ : ∃ s, lookT (foldT (N : Int) (l.take k)) (iN : Int) = s := ⟨_, rfl⟩
      rw [hs] at HADD cs HFT
      clear hp hpn hinv herr hft c0 c1 hs hxw
      go_wp2_with fail
      refine wp_region_held_drew (S := fun w' => w'.cell? ⟨g, o + k * 2, none⟩ = some (.int .i64 (iN : Int)) ∧ w'.cell? ⟨g, o + k * 2 + 1, none⟩ = some (.int .i64 r)) (by kernel_rfl) (⟨hS1, hS2⟩) (fun hHeld => ?_)
      refine wpAnyH_take (i := 0) (oi := { dst := some 39, op := Go.Op.move (Go.Operand.tmp 1), type := 41, pos := "outright.go:73", after := #[], guard := none }) (v := ?_) rfl (by kernel_rfl) (by kernel_rfl) (by kernel_rfl) (fun _ _ _ h => h) (Or.inl ⟨by rfl, ?_⟩) (by assumption) ?_
      rotate_left
      · intro w9 hSw
        try dsimp only at hSw
        go_simp
        try with_reducible rfl
      try simp only [Act.put, List.setIfInBounds_toArray, List.set_cons_zero, List.set_cons_succ]
      refine wpAnyH_take (i := 1) (oi := { dst := some 40, op := Go.Op.move (Go.Operand.tmp 9), type := 3, pos := "outright.go:73", after := #[], guard := none }) (v := ?_) rfl (by kernel_rfl) (by kernel_rfl) (by kernel_rfl) (fun _ _ _ h => h) (Or.inl ⟨by rfl, ?_⟩) (by assumption) ?_
      rotate_left
      · intro w9 hSw
        try dsimp only at hSw
        go_simp
        try with_reducible rfl
      try simp only [Act.put, List.setIfInBounds_toArray, List.set_cons_zero, List.set_cons_succ]
      refine wpAnyH_take (i := 2) (oi := { dst := some 41, op := Go.Op.indexAddr 41 (Go.Operand.tmp 39) (Go.Operand.tmp 40), type := 0, pos := "outright.go:73", after := #[{ on := 0, ground := Go.Ground.data }, { on := 1, ground := Go.Ground.data }], guard := none }) (v := ?_) rfl (by kernel_rfl) (by kernel_rfl) (by kernel_rfl) (fun _ _ _ h => h) (Or.inl ⟨by rfl, ?_⟩) (by assumption) ?_
      rotate_left
      · intro w9 hSw
        try dsimp only at hSw
        go_simp
        try with_reducible rfl
      try simp only [Act.put, List.setIfInBounds_toArray, List.set_cons_zero, List.set_cons_succ]
      refine wpAnyH_take (i := 3) (oi := { dst := some 42, op := Go.Op.fieldAddr 48 (Go.Operand.tmp 41) 0, type := 0, pos := "outright.go:73", after := #[{ on := 2, ground := Go.Ground.data }], guard := none }) (v := ?_) rfl (by kernel_rfl) (by kernel_rfl) (by kernel_rfl) (fun _ _ _ h => h) (Or.inl ⟨by rfl, ?_⟩) (by assumption) ?_
      rotate_left
      · intro w9 hSw
        try dsimp only at hSw
        go_simp
        try with_reducible rfl
      try simp only [Act.put, List.setIfInBounds_toArray, List.set_cons_zero, List.set_cons_succ]
      refine wpAnyH_take (i := 4) (oi := { dst := some 43, op := Go.Op.load 3 (Go.Operand.tmp 42), type := 3, pos := "outright.go:73", after := #[{ on := 3, ground := Go.Ground.data }], guard := none }) (v := ?_) rfl (by kernel_rfl) (by kernel_rfl) (by kernel_rfl) (fun _ _ _ h => h) (Or.inl ⟨by rfl, ?_⟩) (by assumption) ?_
      rotate_left
      · intro w9 hSw
        try dsimp only at hSw
        go_simp
        try with_reducible rfl
      try simp only [Act.put, List.setIfInBounds_toArray, List.set_cons_zero, List.set_cons_succ]
      refine wpAnyH_take (i := 5) (oi := { dst := some 44, op := Go.Op.move (Go.Operand.tmp 1), type := 41, pos := "outright.go:73", after := #[], guard := none }) (v := ?_) rfl (by kernel_rfl) (by kernel_rfl) (by kernel_rfl) (fun _ _ _ h => h) (Or.inl ⟨by rfl, ?_⟩) (by assumption) ?_
      rotate_left
      · intro w9 hSw
        try dsimp only at hSw
        go_simp
        try with_reducible rfl
      try simp only [Act.put, List.setIfInBounds_toArray, List.set_cons_zero, List.set_cons_succ]
      refine wpAnyH_take (i := 6) (oi := { dst := some 45, op := Go.Op.move (Go.Operand.tmp 9), type := 3, pos := "outright.go:73", after := #[], guard := none }) (v := ?_) rfl (by kernel_rfl) (by kernel_rfl) (by kernel_rfl) (fun _ _ _ h => h) (Or.inl ⟨by rfl, ?_⟩) (by assumption) ?_
      rotate_left
      · intro w9 hSw
        try dsimp only at hSw
        go_simp
        try with_reducible rfl
      try simp only [Act.put, List.setIfInBounds_toArray, List.set_cons_zero, List.set_cons_succ]
      refine wpAnyH_take (i := 7) (oi := { dst := some 46, op := Go.Op.indexAddr 41 (Go.Operand.tmp 44) (Go.Operand.tmp 45), type := 0, pos := "outright.go:73", after := #[{ on := 5, ground := Go.Ground.data }, { on := 6, ground := Go.Ground.data }], guard := none }) (v := ?_) rfl (by kernel_rfl) (by kernel_rfl) (by kernel_rfl) (fun _ _ _ h => h) (Or.inl ⟨by rfl, ?_⟩) (by assumption) ?_
      rotate_left
      · intro w9 hSw
        try dsimp only at hSw
        go_simp
        try with_reducible rfl
      try simp only [Act.put, List.setIfInBounds_toArray, List.set_cons_zero, List.set_cons_succ]
      refine wpAnyH_take (i := 8) (oi := { dst := some 47, op := Go.Op.fieldAddr 48 (Go.Operand.tmp 46) 0, type := 0, pos := "outright.go:73", after := #[{ on := 7, ground := Go.Ground.data }], guard := none }) (v := ?_) rfl (by kernel_rfl) (by kernel_rfl) (by kernel_rfl) (fun _ _ _ h => h) (Or.inl ⟨by rfl, ?_⟩) (by assumption) ?_
      rotate_left
      · intro w9 hSw
        try dsimp only at hSw
        go_simp
        try with_reducible rfl
      try simp only [Act.put, List.setIfInBounds_toArray, List.set_cons_zero, List.set_cons_succ]
      refine wpAnyH_take (i := 9) (oi := { dst := some 48, op := Go.Op.load 3 (Go.Operand.tmp 47), type := 3, pos := "outright.go:73", after := #[{ on := 8, ground := Go.Ground.data }], guard := none }) (v := ?_) rfl (by kernel_rfl) (by kernel_rfl) (by kernel_rfl) (fun _ _ _ h => h) (Or.inl ⟨by rfl, ?_⟩) (by assumption) ?_
      rotate_left
      · intro w9 hSw
        try dsimp only at hSw
        go_simp
        try with_reducible rfl
      try simp only [Act.put, List.setIfInBounds_toArray, List.set_cons_zero, List.set_cons_succ]
      refine wpAnyH_take (i := 10) (oi := { dst := some 49, op := Go.Op.indexAddr 46 (Go.Operand.tmp 8) (Go.Operand.tmp 48), type := 0, pos := "outright.go:73", after := #[{ on := 9, ground := Go.Ground.data }], guard := none }) (v := ?_) rfl (by kernel_rfl) (by kernel_rfl) (by kernel_rfl) (fun _ _ _ h => h) (Or.inl ⟨by rfl, ?_⟩) (by assumption) ?_
      rotate_left
      · intro w9 hSw
        try dsimp only at hSw
        go_simp
        try with_reducible rfl
      try simp only [Act.put, List.setIfInBounds_toArray, List.set_cons_zero, List.set_cons_succ]
      refine wpAnyH_take (i := 12) (oi := { dst := some 51, op := Go.Op.move (Go.Operand.tmp 1), type := 41, pos := "outright.go:73", after := #[], guard := none }) (v := ?_) rfl (by kernel_rfl) (by kernel_rfl) (by kernel_rfl) (fun _ _ _ h => h) (Or.inl ⟨by rfl, ?_⟩) (by assumption) ?_
      rotate_left
      · intro w9 hSw
        try dsimp only at hSw
        go_simp
        try with_reducible rfl
      try simp only [Act.put, List.setIfInBounds_toArray, List.set_cons_zero, List.set_cons_succ]
      refine wpAnyH_take (i := 13) (oi := { dst := some 52, op := Go.Op.move (Go.Operand.tmp 9), type := 3, pos := "outright.go:73", after := #[], guard := none }) (v := ?_) rfl (by kernel_rfl) (by kernel_rfl) (by kernel_rfl) (fun _ _ _ h => h) (Or.inl ⟨by rfl, ?_⟩) (by assumption) ?_
      rotate_left
      · intro w9 hSw
        try dsimp only at hSw
        go_simp
        try with_reducible rfl
      try simp only [Act.put, List.setIfInBounds_toArray, List.set_cons_zero, List.set_cons_succ]
      refine wpAnyH_take (i := 14) (oi := { dst := some 53, op := Go.Op.indexAddr 41 (Go.Operand.tmp 51) (Go.Operand.tmp 52), type := 0, pos := "outright.go:73", after := #[{ on := 12, ground := Go.Ground.data }, { on := 13, ground := Go.Ground.data }], guard := none }) (v := ?_) rfl (by kernel_rfl) (by kernel_rfl) (by kernel_rfl) (fun _ _ _ h => h) (Or.inl ⟨by rfl, ?_⟩) (by assumption) ?_
      rotate_left
      · intro w9 hSw
        try dsimp only at hSw
        go_simp
        try with_reducible rfl
      try simp only [Act.put, List.setIfInBounds_toArray, List.set_cons_zero, List.set_cons_succ]
      refine wpAnyH_take (i := 15) (oi := { dst := some 54, op := Go.Op.fieldAddr 48 (Go.Operand.tmp 53) 1, type := 0, pos := "outright.go:73", after := #[{ on := 14, ground := Go.Ground.data }], guard := none }) (v := ?_) rfl (by kernel_rfl) (by kernel_rfl) (by kernel_rfl) (fun _ _ _ h => h) (Or.inl ⟨by rfl, ?_⟩) (by assumption) ?_
      rotate_left
      · intro w9 hSw
        try dsimp only at hSw
        go_simp
        try with_reducible rfl
      try simp only [Act.put, List.setIfInBounds_toArray, List.set_cons_zero, List.set_cons_succ]
      refine wpAnyH_take (i := 16) (oi := { dst := some 55, op := Go.Op.load 3 (Go.Operand.tmp 54), type := 3, pos := "outright.go:73", after := #[{ on := 15, ground := Go.Ground.data }], guard := none }) (v := ?_) rfl (by kernel_rfl) (by kernel_rfl) (by kernel_rfl) (fun _ _ _ h => h) (Or.inl ⟨by rfl, ?_⟩) (by assumption) ?_
      rotate_left
      · intro w9 hSw
        try dsimp only at hSw
        go_simp
        try with_reducible rfl
      try simp only [Act.put, List.setIfInBounds_toArray, List.set_cons_zero, List.set_cons_succ]
      refine wpAnyH_ready (rs := [11]) (by kernel_rfl) (by simp) ?_
      refine AllReadyH.cons (o := { dst := some 50, op := Go.Op.load 45 (Go.Operand.tmp 49), type := 45, pos := "outright.go:73", after := #[{ on := 10, ground := Go.Ground.data }], guard := none }) rfl (fun K hK => ?_) AllReadyH.nil
      clear hHeld
      go_simp
      refine hK.out _ _ (⟨hS1, hS2⟩) (fun hHeld => ?_)
      clear hK K
      try simp only [Act.put, List.setIfInBounds_toArray, List.set_cons_zero, List.set_cons_succ]
      refine wpAnyH_ready (rs := [17]) (by kernel_rfl) (by simp) ?_
      refine AllReadyH.cons (o := { dst := some 56, op := Go.Op.call { callee := Go.Callee.value (Go.Operand.func 23), args := #[Go.Operand.tmp 50, Go.Operand.tmp 55], argTypes := #[45, 3] }, type := 45, pos := "outright.go:73", after := #[{ on := 11, ground := Go.Ground.data }, { on := 16, ground := Go.Ground.data }], guard := none }) rfl (fun K hK => ?_) AllReadyH.nil
      go_simp
      refine (HADD.out _).mono ?_
      rintro e' w4 ⟨rfl, rfl⟩
      go_wp2_with fail
      refine hK.out _ _ (⟨hS1, hS2⟩) (fun hHeld => ?_)
      clear hK K
      try simp only [Act.put, List.setIfInBounds_toArray, List.set_cons_zero, List.set_cons_succ]
      refine wpAnyH_take (i := 18) (oi := { dst := some 57, op := Go.Op.indexAddr 46 (Go.Operand.tmp 8) (Go.Operand.tmp 43), type := 0, pos := "outright.go:73", after := #[{ on := 4, ground := Go.Ground.data }, { on := 0, ground := Go.Ground.phase }, { on := 1, ground := Go.Ground.phase }, { on := 2, ground := Go.Ground.phase }, { on := 3, ground := Go.Ground.phase }, { on := 4, ground := Go.Ground.phase }, { on := 5, ground := Go.Ground.phase }, { on := 6, ground := Go.Ground.phase }, { on := 7, ground := Go.Ground.phase }, { on := 8, ground := Go.Ground.phase }, { on := 9, ground := Go.Ground.phase }, { on := 10, ground := Go.Ground.phase }, { on := 11, ground := Go.Ground.phase }, { on := 12, ground := Go.Ground.phase }, { on := 13, ground := Go.Ground.phase }, { on := 14, ground := Go.Ground.phase }, { on := 15, ground := Go.Ground.phase }, { on := 16, ground := Go.Ground.phase }, { on := 17, ground := Go.Ground.phase }], guard := none }) (v := ?_) rfl (by kernel_rfl) (by kernel_rfl) (by kernel_rfl) (fun _ _ _ h => h) (Or.inl ⟨by rfl, ?_⟩) (by assumption) ?_
      rotate_left
      · intro w9 hSw
        try dsimp only at hSw
        go_simp
        try with_reducible rfl
      try simp only [Act.put, List.setIfInBounds_toArray, List.set_cons_zero, List.set_cons_succ]
      refine wpAnyH_ready (rs := [19]) (by kernel_rfl) (by simp) ?_
      refine AllReadyH.cons (o := { dst := none, op := Go.Op.store 45 (Go.Operand.tmp 57) (Go.Operand.tmp 56), type := 0, pos := "outright.go:73", after := #[{ on := 18, ground := Go.Ground.data }, { on := 17, ground := Go.Ground.data }, { on := 17, ground := Go.Ground.chain }, { on := 0, ground := Go.Ground.phase }, { on := 1, ground := Go.Ground.phase }, { on := 2, ground := Go.Ground.phase }, { on := 3, ground := Go.Ground.phase }, { on := 4, ground := Go.Ground.phase }, { on := 5, ground := Go.Ground.phase }, { on := 6, ground := Go.Ground.phase }, { on := 7, ground := Go.Ground.phase }, { on := 8, ground := Go.Ground.phase }, { on := 9, ground := Go.Ground.phase }, { on := 10, ground := Go.Ground.phase }, { on := 11, ground := Go.Ground.phase }, { on := 12, ground := Go.Ground.phase }, { on := 13, ground := Go.Ground.phase }, { on := 14, ground := Go.Ground.phase }, { on := 15, ground := Go.Ground.phase }, { on := 16, ground := Go.Ground.phase }, { on := 17, ground := Go.Ground.phase }], guard := none }) rfl (fun K hK => ?_) AllReadyH.nil
      clear hHeld
      go_simp
      refine hK.out _ _ ((HKs _).out) (fun hHeld => ?_)
      clear hK K
      try simp only [Act.put, List.setIfInBounds_toArray, List.set_cons_zero, List.set_cons_succ]
      refine wpAnyH_done (by kernel_rfl) ?_ _
      clear hHeld
      have HM2 : Hid (Mod (fun j => j = b8) V (wr.drew.setCell ⟨b8, iN, none⟩ (.int .u8 (addQ s r : Int)))) := Lib.hid ((HM.out.trans (Mod.of_ext (Ext.refl wr).drew) fun _ hi => .inl hi).trans (Mod.setCell (F := fun j => j = b8) (Mod.refl _ _) (p := ⟨b8, iN, none⟩) (.inl rfl) _) fun _ hi => .inl hi)
      have HR2 : Hid ((wr.drew.setCell ⟨b8, iN, none⟩ (.int .u8 (addQ s r : Int))).heap[b8]? = some (.cells (arrT (foldT (N : Int) (l.take (k + 1)))) 46 (0, 0))) := Lib.hid (by rw [HFT.out]; exact (HS (addQ s r)).out)
      clear hS1 hS2 cs fs HS HKs
      go_wp2_with fail
      go_roundw
      case rel => exact ⟨k + 1, by omega, by go_num, HR2, HM2⟩
      case measure => simp [intOf]; omega
    · obtain rfl : k = m := by omega
      have hrow := HR.out
      rw [List.take_of_length_le (by rw [H.out.len]; omega)] at hrow
      have hinv := HNR.out.inv (by have := HN.out; omega)
      have HZ := Lib.hid (HZ.out.mod HM.out (fun e => HB8.out.2.1 e.symm) (fun e => HB8.out.2.2 e.symm))
      have HX : Hid (Ext w wr) := Lib.hid (Below.mod HX.out HM.out HX.out.size (fun j hj => by have := HB8.out.1; omega))
      obtain ⟨u1, u2, u3, u4⟩ := hinv.upto (n := (N : Int)) ⟨q1, q2⟩
      obtain ⟨L, hL⟩ : ∃ L, foldT (N : Int) l = L := ⟨_, rfl⟩
      rw [hL] at hrow hinv HZ u1 u2 u3 u4
      obtain ⟨T, hT⟩ : ∃ T, uptoT (N : Int) L a = T := ⟨_, rfl⟩
      rw [hT] at u1 u2 u3 u4
      have HT := Lib.hid hT
      have HU := Lib.hid (And.intro u3 u4)
      have HI := Lib.hid hinv
      have HR := Lib.hid hrow
      obtain ⟨V2, hV2⟩ : ∃ V2, V2 = wr := ⟨_, rfl⟩
      subst hV2
      clear hrow hinv hL hT u3 u4 HR0 HM
      go_wp2_with fail
      refine (tupto_of HZ.out a HWA.out).mono ?_
      rw [HT.out]
      rintro e w4 ⟨rfl, hx⟩
      have HZ := Lib.hid (HZ.out.ext hx)
      have HX := Lib.hid (HX.out.trans hx)
      have HR : Hid (w4.heap[b8]? = some (.cells (arrT L) 46 (0, 0))) := Lib.hid ((hx.block _ (Array.getElem?_eq_some_iff.1 HR.out).1).trans HR.out)
      clear hx
      have q5 : ¬ T < a := by omega
      have q6 : ¬ 78 < T := by omega
      have d5 : decide (T < a) = false := decide_eq_false q5
      have d6 : decide (78 < T) = false := decide_eq_false q6
      obtain ⟨tN, htN⟩ := Int.eq_ofNat_of_zero_le (show 0 ≤ T by omega)
      subst htN
      have hct : w4.cell? ⟨b8, tN + 1, none⟩ = some (.int .u8 (lookT L ((tN : Int) + 1) : Int)) := (cell_of_row w4 b8 (tN + 1) _ _ _ HR.out).trans (arrT_at L (j := tN + 1) (by omega))
      have HEn := Lib.hid (fun W => enough_of (lookT L ((tN : Int) + 1)) (HI.out.ok.look_lt _) (N : Int) W)
      have he3 : enoughQ (lookT L ((tN : Int) + 1)) (N : Int) = false := HU.out.1
      rw [he3] at HEn
      obtain ⟨s, hs⟩ : ∃ s, lookT L ((tN : Int) + 1) = s := ⟨_, rfl⟩
      rw [hs] at hct HEn
      clear he3 hs
      go_wp2_with fail
      refine (HEn.out _).mono ?_
      rintro e w5 ⟨rfl, hx⟩
      have HZ := Lib.hid (HZ.out.ext hx)
      have HX := Lib.hid (HX.out.trans hx)
      have HR : Hid (w5.heap[b8]? = some (.cells (arrT L) 46 (0, 0))) := Lib.hid ((hx.block _ (Array.getElem?_eq_some_iff.1 HR.out).1).trans HR.out)
      clear hx hct HEn d5 d6
      go_wp2_with fail
      go_loopw [11] (fun v wr => ∃ j : Nat, 1 ≤ j ∧ j ≤ 80 ∧ v = .int .i64 (j : Int) ∧ Hid (TQ wr p2 N b2 L) ∧ Hid (wr.heap[b8]? = some (.cells (arrT L) 46 (0, 0))) ∧ Hid (Ext w wr)) (fun v _ => 80 - (intOf v).toNat)
      case atStart => exact ⟨1, by omega, by omega, rfl, HZ, HR, HX⟩
      case round =>
        obtain ⟨j, hj1, hj, rfl, HZ, HR, HX⟩ := hrel
        by_cases hlt : j < 80
        · have hlt2 : (j : Int) < 80 := by omega
          have hcs : wr.drew.cell? ⟨b8, j, none⟩ = some (.int .u8 (lookT L (j : Int) : Int)) := (cell_of_row wr b8 j _ _ _ HR.out).trans (arrT_at L hlt)
          have HMem := Lib.hid (fun W => members_of (lookT L (j : Int)) (HI.out.ok.look_lt _) (N : Int) W)
          have HEn := Lib.hid (fun W => enough_of (lookT L (j : Int)) (HI.out.ok.look_lt _) (N : Int) W)
          have HCn := Lib.hid (fun (W : World) (z : TQ W p2 N b2 L) => tcount_of z (j : Int) (WalkArith.wf_i64 (by omega)))
          have HLen : Hid ((memI (lookT L (j : Int)) (N : Int)).length = cntT (N : Int) L (j : Int)) := Lib.hid (cnt_len _ _)
          have HUj : Hid (a < (j : Int) → (j : Int) ≤ (tN : Int) → enoughQ (lookT L (j : Int)) (N : Int) = true) := Lib.hid (HU.out.2 (j : Int))
          have HZd := Lib.hid (HZ.out.ext (Ext.refl wr).drew)
          have HKJ : Hid (∀ W, Ext wr.drew W → W.cell? ⟨b8, j, none⟩ = some (.int .u8 (lookT L (j : Int) : Int))) := Lib.hid (fun W hW => ext_cellT hW hcs)
          obtain ⟨s, hs⟩ : ∃ s, lookT L (j : Int) = s := ⟨_, rfl⟩
          obtain ⟨cn, hcn⟩ : ∃ cn, cntT (N : Int) L (j : Int) = cn := ⟨_, rfl⟩
          rw [hs] at hcs HMem HEn HLen HUj HKJ
          rw [hcn] at HCn HLen
          clear hs hcn
          by_cases ja : a < (j : Int)
          · have d1' : decide (a < (j : Int)) = true := decide_eq_true ja
            by_cases jt : (j : Int) ≤ (tN : Int)
            · have d2' : decide ((j : Int) ≤ (tN : Int)) = true := decide_eq_true jt
              have he := HUj.out ja jt
              have HEn : Hid (∀ W, Calls Try.prog 24 #[.int .u8 (s : Int), .int .i64 (N : Int)] W fun e w' => e = .returned (.bool true) ∧ Ext W w') := Lib.hid (fun W => by have := HEn.out W; rw [he] at this; exact this)
              clear he
              go_wp2_with fail
              go_region_held3 (fun w' => w'.cell? ⟨b8, j, none⟩ = some (.int .u8 (s : Int)))
                (first | with_reducible exact hcs | with_reducible assumption)
                (first | (go_at_call 24; ((with_reducible refine (HEn.out _).mono ?_); rintro e w6 ⟨rfl, hx6⟩; have hw6 := HKJ.out _ hx6; have HX6 := Lib.hid hx6)) | (go_at_call 15; ((with_reducible refine (HCn.out _ (HZd.out.ext HX6.out)).mono ?_); rintro e w7 ⟨rfl, hx7⟩; have HX7 : Hid (Ext wr.drew w7) := Lib.hid (Ext.trans HX6.out hx7); have hw7 := HKJ.out _ HX7.out)) | (go_at_call 25; ((with_reducible refine (HMem.out _).mono ?_); rintro e w8 ⟨AM, cM, rfl, hLM, hx8⟩; have HX8 : Hid (Ext wr.drew w8) := Lib.hid (HX7.out.trans hx8); have hw8 := HKJ.out _ HX8.out; have hcM := hLM.cap; have hmM := hLM.most)))
              have HXn : Hid (Ext wr w8) := Lib.hid ((Ext.refl wr).drew.trans HX8.out)
              have HZ := Lib.hid (HZ.out.ext HXn.out)
              have HX := Lib.hid (HX.out.trans HXn.out)
              have HR : Hid (w8.heap[b8]? = some (.cells (arrT L) 46 (0, 0))) := Lib.hid ((HXn.out.block _ (Array.getElem?_eq_some_iff.1 HR.out).1).trans HR.out)
              have hlen := HLen.out
              go_wp2_with fail
              go_roundw
              case rel => exact ⟨j + 1, by omega, by omega, by go_num, HZ, HR, HX⟩
              case measure => simp [intOf]; omega
            · have d2' : decide ((j : Int) ≤ (tN : Int)) = false := decide_eq_false jt
              have jt2 : ¬ j ≤ tN := by omega
              have jt3 : tN < j := by omega
              have d3' : decide (j ≤ tN) = false := decide_eq_false jt2
              go_upto_region 20 with (fail)
              refine wp_region_held_drew (S := fun w' => w'.cell? ⟨b8, j, none⟩ = some (.int .u8 (s : Int))) (by kernel_rfl) (hcs) (fun hHeld => ?_)
              refine wpAnyH_take (i := 0) (oi := { dst := some 80, op := Go.Op.move (Go.Operand.tmp 11), type := 3, pos := "outright.go:80", after := #[], guard := none }) (v := ?_) rfl (by kernel_rfl) (by kernel_rfl) (by kernel_rfl) (fun _ _ _ h => h) (Or.inl ⟨by rfl, ?_⟩) (by assumption) ?_
              rotate_left
              · intro w9 hSw
                try dsimp only at hSw
                go_simp
                try with_reducible rfl
              try simp only [Act.put, List.setIfInBounds_toArray, List.set_cons_zero, List.set_cons_succ]
              refine wpAnyH_take (i := 1) (oi := { dst := some 81, op := Go.Op.move (Go.Operand.tmp 2), type := 3, pos := "outright.go:80", after := #[], guard := none }) (v := ?_) rfl (by kernel_rfl) (by kernel_rfl) (by kernel_rfl) (fun _ _ _ h => h) (Or.inl ⟨by rfl, ?_⟩) (by assumption) ?_
              rotate_left
              · intro w9 hSw
                try dsimp only at hSw
                go_simp
                try with_reducible rfl
              try simp only [Act.put, List.setIfInBounds_toArray, List.set_cons_zero, List.set_cons_succ]
              refine wpAnyH_take (i := 2) (oi := { dst := some 82, op := Go.Op.binOp Go.BinOp.gtr 3 (Go.Operand.tmp 80) (Go.Operand.tmp 81) 3, type := 4, pos := "outright.go:80", after := #[{ on := 0, ground := Go.Ground.data }, { on := 1, ground := Go.Ground.data }], guard := none }) (v := ?_) rfl (by kernel_rfl) (by kernel_rfl) (by kernel_rfl) (fun _ _ _ h => h) (Or.inl ⟨by rfl, ?_⟩) (by assumption) ?_
              rotate_left
              · intro w9 hSw
                try dsimp only at hSw
                go_simp
                try with_reducible rfl
              try simp only [Act.put, List.setIfInBounds_toArray, List.set_cons_zero, List.set_cons_succ]
              refine wpAnyH_take (i := 3) (oi := { dst := some 83, op := Go.Op.move (Go.Operand.tmp 82), type := 4, pos := "outright.go:80", after := #[{ on := 2, ground := Go.Ground.data }], guard := none }) (v := ?_) rfl (by kernel_rfl) (by kernel_rfl) (by kernel_rfl) (fun _ _ _ h => h) (Or.inl ⟨by rfl, ?_⟩) (by assumption) ?_
              rotate_left
              · intro w9 hSw
                try dsimp only at hSw
                go_simp
                try with_reducible rfl
              try simp only [Act.put, List.setIfInBounds_toArray, List.set_cons_zero, List.set_cons_succ]
              refine wpAnyH_take (i := 4) (oi := { dst := some 84, op := Go.Op.move (Go.Operand.tmp 11), type := 3, pos := "outright.go:80", after := #[{ on := 3, ground := Go.Ground.guard }], guard := some (3, true) }) (v := ?_) rfl (by kernel_rfl) (by kernel_rfl) (by kernel_rfl) (fun _ _ _ h => h) (Or.inl ⟨by rfl, ?_⟩) (by assumption) ?_
              rotate_left
              · intro w9 hSw
                try dsimp only at hSw
                go_simp
                try with_reducible rfl
              try simp only [Act.put, List.setIfInBounds_toArray, List.set_cons_zero, List.set_cons_succ]
              refine wpAnyH_take (i := 5) (oi := { dst := some 85, op := Go.Op.move (Go.Operand.tmp 10), type := 3, pos := "outright.go:80", after := #[{ on := 3, ground := Go.Ground.guard }], guard := some (3, true) }) (v := ?_) rfl (by kernel_rfl) (by kernel_rfl) (by kernel_rfl) (fun _ _ _ h => h) (Or.inl ⟨by rfl, ?_⟩) (by assumption) ?_
              rotate_left
              · intro w9 hSw
                try dsimp only at hSw
                go_simp
                try with_reducible rfl
              try simp only [Act.put, List.setIfInBounds_toArray, List.set_cons_zero, List.set_cons_succ]
              refine wpAnyH_take (i := 6) (oi := { dst := some 86, op := Go.Op.binOp Go.BinOp.leq 3 (Go.Operand.tmp 84) (Go.Operand.tmp 85) 3, type := 4, pos := "outright.go:80", after := #[{ on := 4, ground := Go.Ground.data }, { on := 5, ground := Go.Ground.data }, { on := 3, ground := Go.Ground.guard }], guard := some (3, true) }) (v := ?_) rfl (by kernel_rfl) (by kernel_rfl) (by kernel_rfl) (fun _ _ _ h => h) (Or.inl ⟨by rfl, ?_⟩) (by assumption) ?_
              rotate_left
              · intro w9 hSw
                try dsimp only at hSw
                go_simp
                try with_reducible rfl
              try simp only [Act.put, List.setIfInBounds_toArray, List.set_cons_zero, List.set_cons_succ]
              refine wpAnyH_take (i := 7) (oi := { dst := some 87, op := Go.Op.pick (Go.Operand.tmp 83) (Go.Operand.tmp 86) (Go.Operand.const (Go.Value.bool false)), type := 4, pos := "outright.go:80", after := #[{ on := 3, ground := Go.Ground.data }, { on := 6, ground := Go.Ground.data }], guard := none }) (v := ?_) rfl (by kernel_rfl) (by kernel_rfl) (by kernel_rfl) (fun _ _ _ h => h) (Or.inl ⟨by rfl, ?_⟩) (by assumption) ?_
              rotate_left
              · intro w9 hSw
                try dsimp only at hSw
                go_simp
                try with_reducible rfl
              try simp only [Act.put, List.setIfInBounds_toArray, List.set_cons_zero, List.set_cons_succ]
              refine wpAnyH_take (i := 8) (oi := { dst := some 88, op := Go.Op.move (Go.Operand.tmp 87), type := 4, pos := "outright.go:80", after := #[{ on := 7, ground := Go.Ground.data }, { on := 3, ground := Go.Ground.chain }], guard := none }) (v := ?_) rfl (by kernel_rfl) (by kernel_rfl) (by kernel_rfl) (fun _ _ _ h => h) (Or.inl ⟨by rfl, ?_⟩) (by assumption) ?_
              rotate_left
              · intro w9 hSw
                try dsimp only at hSw
                go_simp
                try with_reducible rfl
              try simp only [Act.put, List.setIfInBounds_toArray, List.set_cons_zero, List.set_cons_succ]
              refine wpAnyH_take (i := 9) (oi := { dst := some 89, op := Go.Op.move (Go.Operand.tmp 11), type := 3, pos := "outright.go:80", after := #[{ on := 8, ground := Go.Ground.guard }], guard := some (8, true) }) (v := undef) rfl (by kernel_rfl) (by kernel_rfl) (by kernel_rfl) (fun _ _ _ h => h) (Or.inr ⟨by rfl, rfl⟩) (by assumption) ?_
              try simp only [Act.put, List.setIfInBounds_toArray, List.set_cons_zero, List.set_cons_succ]
              refine wpAnyH_take (i := 10) (oi := { dst := some 90, op := Go.Op.indexAddr 46 (Go.Operand.tmp 8) (Go.Operand.tmp 89), type := 0, pos := "outright.go:80", after := #[{ on := 9, ground := Go.Ground.data }, { on := 8, ground := Go.Ground.guard }], guard := some (8, true) }) (v := undef) rfl (by kernel_rfl) (by kernel_rfl) (by kernel_rfl) (fun _ _ _ h => h) (Or.inr ⟨by rfl, rfl⟩) (by assumption) ?_
              try simp only [Act.put, List.setIfInBounds_toArray, List.set_cons_zero, List.set_cons_succ]
              refine wpAnyH_take (i := 11) (oi := { dst := some 91, op := Go.Op.load 45 (Go.Operand.tmp 90), type := 45, pos := "outright.go:80", after := #[{ on := 10, ground := Go.Ground.data }, { on := 8, ground := Go.Ground.guard }], guard := some (8, true) }) (v := undef) rfl (by kernel_rfl) (by kernel_rfl) (by kernel_rfl) (fun _ _ _ h => h) (Or.inr ⟨by rfl, rfl⟩) (by assumption) ?_
              try simp only [Act.put, List.setIfInBounds_toArray, List.set_cons_zero, List.set_cons_succ]
              refine wpAnyH_take (i := 12) (oi := { dst := some 92, op := Go.Op.move (Go.Operand.tmp 0), type := 3, pos := "outright.go:80", after := #[{ on := 8, ground := Go.Ground.guard }], guard := some (8, true) }) (v := undef) rfl (by kernel_rfl) (by kernel_rfl) (by kernel_rfl) (fun _ _ _ h => h) (Or.inr ⟨by rfl, rfl⟩) (by assumption) ?_
              try simp only [Act.put, List.setIfInBounds_toArray, List.set_cons_zero, List.set_cons_succ]
              refine wpAnyH_take (i := 13) (oi := { dst := some 93, op := Go.Op.call { callee := Go.Callee.value (Go.Operand.func 24), args := #[Go.Operand.tmp 91, Go.Operand.tmp 92], argTypes := #[45, 3] }, type := 4, pos := "outright.go:80", after := #[{ on := 11, ground := Go.Ground.data }, { on := 12, ground := Go.Ground.data }, { on := 8, ground := Go.Ground.chain }, { on := 8, ground := Go.Ground.guard }], guard := some (8, true) }) (v := undef) rfl (by kernel_rfl) (by kernel_rfl) (by kernel_rfl) (fun _ _ _ h => h) (Or.inr ⟨by rfl, rfl⟩) (by assumption) ?_
              try simp only [Act.put, List.setIfInBounds_toArray, List.set_cons_zero, List.set_cons_succ]
              refine wpAnyH_take (i := 14) (oi := { dst := some 94, op := Go.Op.unOp Go.UnOp.not 4 (Go.Operand.tmp 93), type := 4, pos := "outright.go:80", after := #[{ on := 13, ground := Go.Ground.data }, { on := 8, ground := Go.Ground.guard }], guard := some (8, true) }) (v := undef) rfl (by kernel_rfl) (by kernel_rfl) (by kernel_rfl) (fun _ _ _ h => h) (Or.inr ⟨by rfl, rfl⟩) (by assumption) ?_
              try simp only [Act.put, List.setIfInBounds_toArray, List.set_cons_zero, List.set_cons_succ]
              refine wpAnyH_take (i := 15) (oi := { dst := some 95, op := Go.Op.pick (Go.Operand.tmp 88) (Go.Operand.tmp 94) (Go.Operand.const (Go.Value.bool false)), type := 4, pos := "outright.go:80", after := #[{ on := 8, ground := Go.Ground.data }, { on := 14, ground := Go.Ground.data }], guard := none }) (v := ?_) rfl (by kernel_rfl) (by kernel_rfl) (by kernel_rfl) (fun _ _ _ h => h) (Or.inl ⟨by rfl, ?_⟩) (by assumption) ?_
              rotate_left
              · intro w9 hSw
                try dsimp only at hSw
                go_simp
                try with_reducible rfl
              try simp only [Act.put, List.setIfInBounds_toArray, List.set_cons_zero, List.set_cons_succ]
              refine wpAnyH_take (i := 16) (oi := { dst := some 96, op := Go.Op.move (Go.Operand.tmp 95), type := 4, pos := "outright.go:80", after := #[{ on := 15, ground := Go.Ground.data }, { on := 13, ground := Go.Ground.chain }], guard := none }) (v := ?_) rfl (by kernel_rfl) (by kernel_rfl) (by kernel_rfl) (fun _ _ _ h => h) (Or.inl ⟨by rfl, ?_⟩) (by assumption) ?_
              rotate_left
              · intro w9 hSw
                try dsimp only at hSw
                go_simp
                try with_reducible rfl
              try simp only [Act.put, List.setIfInBounds_toArray, List.set_cons_zero, List.set_cons_succ]
              refine wpAnyH_take (i := 17) (oi := { dst := some 97, op := Go.Op.move (Go.Operand.tmp 7), type := 23, pos := "outright.go:80", after := #[{ on := 16, ground := Go.Ground.guard }], guard := some (16, false) }) (v := ?_) rfl (by kernel_rfl) (by kernel_rfl) (by kernel_rfl) (fun _ _ _ h => h) (Or.inl ⟨by rfl, ?_⟩) (by assumption) ?_
              rotate_left
              · intro w9 hSw
                try dsimp only at hSw
                go_simp
                try with_reducible rfl
              try simp only [Act.put, List.setIfInBounds_toArray, List.set_cons_zero, List.set_cons_succ]
              refine wpAnyH_take (i := 18) (oi := { dst := some 98, op := Go.Op.move (Go.Operand.tmp 11), type := 3, pos := "outright.go:80", after := #[{ on := 16, ground := Go.Ground.guard }], guard := some (16, false) }) (v := ?_) rfl (by kernel_rfl) (by kernel_rfl) (by kernel_rfl) (fun _ _ _ h => h) (Or.inl ⟨by rfl, ?_⟩) (by assumption) ?_
              rotate_left
              · intro w9 hSw
                try dsimp only at hSw
                go_simp
                try with_reducible rfl
              try simp only [Act.put, List.setIfInBounds_toArray, List.set_cons_zero, List.set_cons_succ]
              refine wpAnyH_take (i := 20) (oi := { dst := some 100, op := Go.Op.move (Go.Operand.tmp 11), type := 3, pos := "outright.go:80", after := #[{ on := 16, ground := Go.Ground.guard }], guard := some (16, false) }) (v := ?_) rfl (by kernel_rfl) (by kernel_rfl) (by kernel_rfl) (fun _ _ _ h => h) (Or.inl ⟨by rfl, ?_⟩) (by assumption) ?_
              rotate_left
              · intro w9 hSw
                try dsimp only at hSw
                go_simp
                try with_reducible rfl
              try simp only [Act.put, List.setIfInBounds_toArray, List.set_cons_zero, List.set_cons_succ]
              refine wpAnyH_take (i := 21) (oi := { dst := some 101, op := Go.Op.indexAddr 46 (Go.Operand.tmp 8) (Go.Operand.tmp 100), type := 0, pos := "outright.go:80", after := #[{ on := 20, ground := Go.Ground.data }, { on := 16, ground := Go.Ground.guard }], guard := some (16, false) }) (v := ?_) rfl (by kernel_rfl) (by kernel_rfl) (by kernel_rfl) (fun _ _ _ h => h) (Or.inl ⟨by rfl, ?_⟩) (by assumption) ?_
              rotate_left
              · intro w9 hSw
                try dsimp only at hSw
                go_simp
                try with_reducible rfl
              try simp only [Act.put, List.setIfInBounds_toArray, List.set_cons_zero, List.set_cons_succ]
              refine wpAnyH_take (i := 22) (oi := { dst := some 102, op := Go.Op.load 45 (Go.Operand.tmp 101), type := 45, pos := "outright.go:80", after := #[{ on := 21, ground := Go.Ground.data }, { on := 16, ground := Go.Ground.guard }], guard := some (16, false) }) (v := ?_) rfl (by kernel_rfl) (by kernel_rfl) (by kernel_rfl) (fun _ _ _ h => h) (Or.inl ⟨by rfl, ?_⟩) (by assumption) ?_
              rotate_left
              · intro w9 hSw
                try dsimp only at hSw
                go_simp
                try with_reducible rfl
              try simp only [Act.put, List.setIfInBounds_toArray, List.set_cons_zero, List.set_cons_succ]
              refine wpAnyH_take (i := 23) (oi := { dst := some 103, op := Go.Op.move (Go.Operand.tmp 0), type := 3, pos := "outright.go:80", after := #[{ on := 16, ground := Go.Ground.guard }], guard := some (16, false) }) (v := ?_) rfl (by kernel_rfl) (by kernel_rfl) (by kernel_rfl) (fun _ _ _ h => h) (Or.inl ⟨by rfl, ?_⟩) (by assumption) ?_
              rotate_left
              · intro w9 hSw
                try dsimp only at hSw
                go_simp
                try with_reducible rfl
              try simp only [Act.put, List.setIfInBounds_toArray, List.set_cons_zero, List.set_cons_succ]
              refine wpAnyH_ready (rs := [19]) (by kernel_rfl) (by simp) ?_
              refine AllReadyH.cons (o := { dst := some 99, op := Go.Op.call { callee := Go.Callee.value (Go.Operand.func 15), args := #[Go.Operand.tmp 97, Go.Operand.tmp 98], argTypes := #[23, 3] }, type := 3, pos := "outright.go:80", after := #[{ on := 17, ground := Go.Ground.data }, { on := 18, ground := Go.Ground.data }, { on := 16, ground := Go.Ground.chain }, { on := 16, ground := Go.Ground.guard }], guard := some (16, false) }) rfl (fun K hK => ?_) AllReadyH.nil
              go_simp
              refine (HCn.out _ (HZd.out.ext (Ext.refl _))).mono ?_
              rintro e w7 ⟨rfl, hx7⟩
              have HX7 : Hid (Ext wr.drew w7) := Lib.hid hx7
              have hw7 := HKJ.out _ HX7.out
              go_wp2_with fail
              refine hK.out _ _ (hw7) (fun hHeld => ?_)
              clear hK K
              try simp only [Act.put, List.setIfInBounds_toArray, List.set_cons_zero, List.set_cons_succ]
              refine wpAnyH_ready (rs := [24]) (by kernel_rfl) (by simp) ?_
              refine AllReadyH.cons (o := { dst := some 104, op := Go.Op.call { callee := Go.Callee.value (Go.Operand.func 25), args := #[Go.Operand.tmp 102, Go.Operand.tmp 103], argTypes := #[45, 3] }, type := 51, pos := "outright.go:80", after := #[{ on := 22, ground := Go.Ground.data }, { on := 23, ground := Go.Ground.data }, { on := 19, ground := Go.Ground.chain }, { on := 16, ground := Go.Ground.guard }], guard := some (16, false) }) rfl (fun K hK => ?_) AllReadyH.nil
              go_simp
              refine (HMem.out _).mono ?_
              rintro e w8 ⟨AM, cM, rfl, hLM, hx8⟩
              have HX8 : Hid (Ext wr.drew w8) := Lib.hid (HX7.out.trans hx8)
              have hw8 := HKJ.out _ HX8.out
              have hcM := hLM.cap
              have hmM := hLM.most
              go_wp2_with fail
              refine hK.out _ _ (hw8) (fun hHeld => ?_)
              clear hK K
              try simp only [Act.put, List.setIfInBounds_toArray, List.set_cons_zero, List.set_cons_succ]
              refine wpAnyH_take (i := 25) (oi := { dst := some 105, op := Go.Op.call { callee := Go.Callee.builtin Go.Builtin.len, args := #[Go.Operand.tmp 104], argTypes := #[51] }, type := 3, pos := "outright.go:80", after := #[{ on := 24, ground := Go.Ground.data }, { on := 16, ground := Go.Ground.guard }], guard := some (16, false) }) (v := ?_) rfl (by kernel_rfl) (by kernel_rfl) (by kernel_rfl) (fun _ _ _ h => h) (Or.inl ⟨by rfl, ?_⟩) (by assumption) ?_
              rotate_left
              · intro w9 hSw
                try dsimp only at hSw
                go_simp
                try with_reducible rfl
              try simp only [Act.put, List.setIfInBounds_toArray, List.set_cons_zero, List.set_cons_succ]
              refine wpAnyH_take (i := 26) (oi := { dst := some 106, op := Go.Op.binOp Go.BinOp.neq 3 (Go.Operand.tmp 99) (Go.Operand.tmp 105) 3, type := 4, pos := "outright.go:80", after := #[{ on := 19, ground := Go.Ground.data }, { on := 25, ground := Go.Ground.data }, { on := 16, ground := Go.Ground.guard }], guard := some (16, false) }) (v := ?_) rfl (by kernel_rfl) (by kernel_rfl) (by kernel_rfl) (fun _ _ _ h => h) (Or.inl ⟨by rfl, ?_⟩) (by assumption) ?_
              rotate_left
              · intro w9 hSw
                try dsimp only at hSw
                go_simp
                try with_reducible rfl
              try simp only [Act.put, List.setIfInBounds_toArray, List.set_cons_zero, List.set_cons_succ]
              refine wpAnyH_take (i := 27) (oi := { dst := some 107, op := Go.Op.pick (Go.Operand.tmp 96) (Go.Operand.const (Go.Value.bool true)) (Go.Operand.tmp 106), type := 4, pos := "outright.go:80", after := #[{ on := 16, ground := Go.Ground.data }, { on := 26, ground := Go.Ground.data }], guard := none }) (v := ?_) rfl (by kernel_rfl) (by kernel_rfl) (by kernel_rfl) (fun _ _ _ h => h) (Or.inl ⟨by rfl, ?_⟩) (by assumption) ?_
              rotate_left
              · intro w9 hSw
                try dsimp only at hSw
                go_simp
                try with_reducible rfl
              try simp only [Act.put, List.setIfInBounds_toArray, List.set_cons_zero, List.set_cons_succ]
              refine wpAnyH_done (by kernel_rfl) ?_ _
              clear hHeld
              have HXn : Hid (Ext wr w8) := Lib.hid ((Ext.refl wr).drew.trans HX8.out)
              have HZ := Lib.hid (HZ.out.ext HXn.out)
              have HX := Lib.hid (HX.out.trans HXn.out)
              have HR : Hid (w8.heap[b8]? = some (.cells (arrT L) 46 (0, 0))) := Lib.hid ((HXn.out.block _ (Array.getElem?_eq_some_iff.1 HR.out).1).trans HR.out)
              have hlen := HLen.out
              go_wp2_with fail
              go_roundw
              case rel => exact ⟨j + 1, by omega, by omega, by go_num, HZ, HR, HX⟩
              case measure => simp [intOf]; omega
          · have d1' : decide (a < (j : Int)) = false := decide_eq_false ja
            go_upto_region 20 with (fail)
            refine wp_region_held_drew (S := fun w' => w'.cell? ⟨b8, j, none⟩ = some (.int .u8 (s : Int))) (by kernel_rfl) (hcs) (fun hHeld => ?_)
            refine wpAnyH_take (i := 0) (oi := { dst := some 80, op := Go.Op.move (Go.Operand.tmp 11), type := 3, pos := "outright.go:80", after := #[], guard := none }) (v := ?_) rfl (by kernel_rfl) (by kernel_rfl) (by kernel_rfl) (fun _ _ _ h => h) (Or.inl ⟨by rfl, ?_⟩) (by assumption) ?_
            rotate_left
            · intro w9 hSw
              try dsimp only at hSw
              go_simp
              try with_reducible rfl
            try simp only [Act.put, List.setIfInBounds_toArray, List.set_cons_zero, List.set_cons_succ]
            refine wpAnyH_take (i := 1) (oi := { dst := some 81, op := Go.Op.move (Go.Operand.tmp 2), type := 3, pos := "outright.go:80", after := #[], guard := none }) (v := ?_) rfl (by kernel_rfl) (by kernel_rfl) (by kernel_rfl) (fun _ _ _ h => h) (Or.inl ⟨by rfl, ?_⟩) (by assumption) ?_
            rotate_left
            · intro w9 hSw
              try dsimp only at hSw
              go_simp
              try with_reducible rfl
            try simp only [Act.put, List.setIfInBounds_toArray, List.set_cons_zero, List.set_cons_succ]
            refine wpAnyH_take (i := 2) (oi := { dst := some 82, op := Go.Op.binOp Go.BinOp.gtr 3 (Go.Operand.tmp 80) (Go.Operand.tmp 81) 3, type := 4, pos := "outright.go:80", after := #[{ on := 0, ground := Go.Ground.data }, { on := 1, ground := Go.Ground.data }], guard := none }) (v := ?_) rfl (by kernel_rfl) (by kernel_rfl) (by kernel_rfl) (fun _ _ _ h => h) (Or.inl ⟨by rfl, ?_⟩) (by assumption) ?_
            rotate_left
            · intro w9 hSw
              try dsimp only at hSw
              go_simp
              try with_reducible rfl
            try simp only [Act.put, List.setIfInBounds_toArray, List.set_cons_zero, List.set_cons_succ]
            refine wpAnyH_take (i := 3) (oi := { dst := some 83, op := Go.Op.move (Go.Operand.tmp 82), type := 4, pos := "outright.go:80", after := #[{ on := 2, ground := Go.Ground.data }], guard := none }) (v := ?_) rfl (by kernel_rfl) (by kernel_rfl) (by kernel_rfl) (fun _ _ _ h => h) (Or.inl ⟨by rfl, ?_⟩) (by assumption) ?_
            rotate_left
            · intro w9 hSw
              try dsimp only at hSw
              go_simp
              try with_reducible rfl
            try simp only [Act.put, List.setIfInBounds_toArray, List.set_cons_zero, List.set_cons_succ]
            refine wpAnyH_take (i := 4) (oi := { dst := some 84, op := Go.Op.move (Go.Operand.tmp 11), type := 3, pos := "outright.go:80", after := #[{ on := 3, ground := Go.Ground.guard }], guard := some (3, true) }) (v := undef) rfl (by kernel_rfl) (by kernel_rfl) (by kernel_rfl) (fun _ _ _ h => h) (Or.inr ⟨by rfl, rfl⟩) (by assumption) ?_
            try simp only [Act.put, List.setIfInBounds_toArray, List.set_cons_zero, List.set_cons_succ]
            refine wpAnyH_take (i := 5) (oi := { dst := some 85, op := Go.Op.move (Go.Operand.tmp 10), type := 3, pos := "outright.go:80", after := #[{ on := 3, ground := Go.Ground.guard }], guard := some (3, true) }) (v := undef) rfl (by kernel_rfl) (by kernel_rfl) (by kernel_rfl) (fun _ _ _ h => h) (Or.inr ⟨by rfl, rfl⟩) (by assumption) ?_
            try simp only [Act.put, List.setIfInBounds_toArray, List.set_cons_zero, List.set_cons_succ]
            refine wpAnyH_take (i := 6) (oi := { dst := some 86, op := Go.Op.binOp Go.BinOp.leq 3 (Go.Operand.tmp 84) (Go.Operand.tmp 85) 3, type := 4, pos := "outright.go:80", after := #[{ on := 4, ground := Go.Ground.data }, { on := 5, ground := Go.Ground.data }, { on := 3, ground := Go.Ground.guard }], guard := some (3, true) }) (v := undef) rfl (by kernel_rfl) (by kernel_rfl) (by kernel_rfl) (fun _ _ _ h => h) (Or.inr ⟨by rfl, rfl⟩) (by assumption) ?_
            try simp only [Act.put, List.setIfInBounds_toArray, List.set_cons_zero, List.set_cons_succ]
            refine wpAnyH_take (i := 7) (oi := { dst := some 87, op := Go.Op.pick (Go.Operand.tmp 83) (Go.Operand.tmp 86) (Go.Operand.const (Go.Value.bool false)), type := 4, pos := "outright.go:80", after := #[{ on := 3, ground := Go.Ground.data }, { on := 6, ground := Go.Ground.data }], guard := none }) (v := ?_) rfl (by kernel_rfl) (by kernel_rfl) (by kernel_rfl) (fun _ _ _ h => h) (Or.inl ⟨by rfl, ?_⟩) (by assumption) ?_
            rotate_left
            · intro w9 hSw
              try dsimp only at hSw
              go_simp
              try with_reducible rfl
            try simp only [Act.put, List.setIfInBounds_toArray, List.set_cons_zero, List.set_cons_succ]
            refine wpAnyH_take (i := 8) (oi := { dst := some 88, op := Go.Op.move (Go.Operand.tmp 87), type := 4, pos := "outright.go:80", after := #[{ on := 7, ground := Go.Ground.data }, { on := 3, ground := Go.Ground.chain }], guard := none }) (v := ?_) rfl (by kernel_rfl) (by kernel_rfl) (by kernel_rfl) (fun _ _ _ h => h) (Or.inl ⟨by rfl, ?_⟩) (by assumption) ?_
            rotate_left
            · intro w9 hSw
              try dsimp only at hSw
              go_simp
              try with_reducible rfl
            try simp only [Act.put, List.setIfInBounds_toArray, List.set_cons_zero, List.set_cons_succ]
            refine wpAnyH_take (i := 9) (oi := { dst := some 89, op := Go.Op.move (Go.Operand.tmp 11), type := 3, pos := "outright.go:80", after := #[{ on := 8, ground := Go.Ground.guard }], guard := some (8, true) }) (v := undef) rfl (by kernel_rfl) (by kernel_rfl) (by kernel_rfl) (fun _ _ _ h => h) (Or.inr ⟨by rfl, rfl⟩) (by assumption) ?_
            try simp only [Act.put, List.setIfInBounds_toArray, List.set_cons_zero, List.set_cons_succ]
            refine wpAnyH_take (i := 10) (oi := { dst := some 90, op := Go.Op.indexAddr 46 (Go.Operand.tmp 8) (Go.Operand.tmp 89), type := 0, pos := "outright.go:80", after := #[{ on := 9, ground := Go.Ground.data }, { on := 8, ground := Go.Ground.guard }], guard := some (8, true) }) (v := undef) rfl (by kernel_rfl) (by kernel_rfl) (by kernel_rfl) (fun _ _ _ h => h) (Or.inr ⟨by rfl, rfl⟩) (by assumption) ?_
            try simp only [Act.put, List.setIfInBounds_toArray, List.set_cons_zero, List.set_cons_succ]
            refine wpAnyH_take (i := 11) (oi := { dst := some 91, op := Go.Op.load 45 (Go.Operand.tmp 90), type := 45, pos := "outright.go:80", after := #[{ on := 10, ground := Go.Ground.data }, { on := 8, ground := Go.Ground.guard }], guard := some (8, true) }) (v := undef) rfl (by kernel_rfl) (by kernel_rfl) (by kernel_rfl) (fun _ _ _ h => h) (Or.inr ⟨by rfl, rfl⟩) (by assumption) ?_
            try simp only [Act.put, List.setIfInBounds_toArray, List.set_cons_zero, List.set_cons_succ]
            refine wpAnyH_take (i := 12) (oi := { dst := some 92, op := Go.Op.move (Go.Operand.tmp 0), type := 3, pos := "outright.go:80", after := #[{ on := 8, ground := Go.Ground.guard }], guard := some (8, true) }) (v := undef) rfl (by kernel_rfl) (by kernel_rfl) (by kernel_rfl) (fun _ _ _ h => h) (Or.inr ⟨by rfl, rfl⟩) (by assumption) ?_
            try simp only [Act.put, List.setIfInBounds_toArray, List.set_cons_zero, List.set_cons_succ]
            refine wpAnyH_take (i := 13) (oi := { dst := some 93, op := Go.Op.call { callee := Go.Callee.value (Go.Operand.func 24), args := #[Go.Operand.tmp 91, Go.Operand.tmp 92], argTypes := #[45, 3] }, type := 4, pos := "outright.go:80", after := #[{ on := 11, ground := Go.Ground.data }, { on := 12, ground := Go.Ground.data }, { on := 8, ground := Go.Ground.chain }, { on := 8, ground := Go.Ground.guard }], guard := some (8, true) }) (v := undef) rfl (by kernel_rfl) (by kernel_rfl) (by kernel_rfl) (fun _ _ _ h => h) (Or.inr ⟨by rfl, rfl⟩) (by assumption) ?_
            try simp only [Act.put, List.setIfInBounds_toArray, List.set_cons_zero, List.set_cons_succ]
            refine wpAnyH_take (i := 14) (oi := { dst := some 94, op := Go.Op.unOp Go.UnOp.not 4 (Go.Operand.tmp 93), type := 4, pos := "outright.go:80", after := #[{ on := 13, ground := Go.Ground.data }, { on := 8, ground := Go.Ground.guard }], guard := some (8, true) }) (v := undef) rfl (by kernel_rfl) (by kernel_rfl) (by kernel_rfl) (fun _ _ _ h => h) (Or.inr ⟨by rfl, rfl⟩) (by assumption) ?_
            try simp only [Act.put, List.setIfInBounds_toArray, List.set_cons_zero, List.set_cons_succ]
            refine wpAnyH_take (i := 15) (oi := { dst := some 95, op := Go.Op.pick (Go.Operand.tmp 88) (Go.Operand.tmp 94) (Go.Operand.const (Go.Value.bool false)), type := 4, pos := "outright.go:80", after := #[{ on := 8, ground := Go.Ground.data }, { on := 14, ground := Go.Ground.data }], guard := none }) (v := ?_) rfl (by kernel_rfl) (by kernel_rfl) (by kernel_rfl) (fun _ _ _ h => h) (Or.inl ⟨by rfl, ?_⟩) (by assumption) ?_
            rotate_left
            · intro w9 hSw
              try dsimp only at hSw
              go_simp
              try with_reducible rfl
            try simp only [Act.put, List.setIfInBounds_toArray, List.set_cons_zero, List.set_cons_succ]
            refine wpAnyH_take (i := 16) (oi := { dst := some 96, op := Go.Op.move (Go.Operand.tmp 95), type := 4, pos := "outright.go:80", after := #[{ on := 15, ground := Go.Ground.data }, { on := 13, ground := Go.Ground.chain }], guard := none }) (v := ?_) rfl (by kernel_rfl) (by kernel_rfl) (by kernel_rfl) (fun _ _ _ h => h) (Or.inl ⟨by rfl, ?_⟩) (by assumption) ?_
            rotate_left
            · intro w9 hSw
              try dsimp only at hSw
              go_simp
              try with_reducible rfl
            try simp only [Act.put, List.setIfInBounds_toArray, List.set_cons_zero, List.set_cons_succ]
            refine wpAnyH_take (i := 17) (oi := { dst := some 97, op := Go.Op.move (Go.Operand.tmp 7), type := 23, pos := "outright.go:80", after := #[{ on := 16, ground := Go.Ground.guard }], guard := some (16, false) }) (v := ?_) rfl (by kernel_rfl) (by kernel_rfl) (by kernel_rfl) (fun _ _ _ h => h) (Or.inl ⟨by rfl, ?_⟩) (by assumption) ?_
            rotate_left
            · intro w9 hSw
              try dsimp only at hSw
              go_simp
              try with_reducible rfl
            try simp only [Act.put, List.setIfInBounds_toArray, List.set_cons_zero, List.set_cons_succ]
            refine wpAnyH_take (i := 18) (oi := { dst := some 98, op := Go.Op.move (Go.Operand.tmp 11), type := 3, pos := "outright.go:80", after := #[{ on := 16, ground := Go.Ground.guard }], guard := some (16, false) }) (v := ?_) rfl (by kernel_rfl) (by kernel_rfl) (by kernel_rfl) (fun _ _ _ h => h) (Or.inl ⟨by rfl, ?_⟩) (by assumption) ?_
            rotate_left
            · intro w9 hSw
              try dsimp only at hSw
              go_simp
              try with_reducible rfl
            try simp only [Act.put, List.setIfInBounds_toArray, List.set_cons_zero, List.set_cons_succ]
            refine wpAnyH_take (i := 20) (oi := { dst := some 100, op := Go.Op.move (Go.Operand.tmp 11), type := 3, pos := "outright.go:80", after := #[{ on := 16, ground := Go.Ground.guard }], guard := some (16, false) }) (v := ?_) rfl (by kernel_rfl) (by kernel_rfl) (by kernel_rfl) (fun _ _ _ h => h) (Or.inl ⟨by rfl, ?_⟩) (by assumption) ?_
            rotate_left
            · intro w9 hSw
              try dsimp only at hSw
              go_simp
              try with_reducible rfl
            try simp only [Act.put, List.setIfInBounds_toArray, List.set_cons_zero, List.set_cons_succ]
            refine wpAnyH_take (i := 21) (oi := { dst := some 101, op := Go.Op.indexAddr 46 (Go.Operand.tmp 8) (Go.Operand.tmp 100), type := 0, pos := "outright.go:80", after := #[{ on := 20, ground := Go.Ground.data }, { on := 16, ground := Go.Ground.guard }], guard := some (16, false) }) (v := ?_) rfl (by kernel_rfl) (by kernel_rfl) (by kernel_rfl) (fun _ _ _ h => h) (Or.inl ⟨by rfl, ?_⟩) (by assumption) ?_
            rotate_left
            · intro w9 hSw
              try dsimp only at hSw
              go_simp
              try with_reducible rfl
            try simp only [Act.put, List.setIfInBounds_toArray, List.set_cons_zero, List.set_cons_succ]
            refine wpAnyH_take (i := 22) (oi := { dst := some 102, op := Go.Op.load 45 (Go.Operand.tmp 101), type := 45, pos := "outright.go:80", after := #[{ on := 21, ground := Go.Ground.data }, { on := 16, ground := Go.Ground.guard }], guard := some (16, false) }) (v := ?_) rfl (by kernel_rfl) (by kernel_rfl) (by kernel_rfl) (fun _ _ _ h => h) (Or.inl ⟨by rfl, ?_⟩) (by assumption) ?_
            rotate_left
            · intro w9 hSw
              try dsimp only at hSw
              go_simp
              try with_reducible rfl
            try simp only [Act.put, List.setIfInBounds_toArray, List.set_cons_zero, List.set_cons_succ]
            refine wpAnyH_take (i := 23) (oi := { dst := some 103, op := Go.Op.move (Go.Operand.tmp 0), type := 3, pos := "outright.go:80", after := #[{ on := 16, ground := Go.Ground.guard }], guard := some (16, false) }) (v := ?_) rfl (by kernel_rfl) (by kernel_rfl) (by kernel_rfl) (fun _ _ _ h => h) (Or.inl ⟨by rfl, ?_⟩) (by assumption) ?_
            rotate_left
            · intro w9 hSw
              try dsimp only at hSw
              go_simp
              try with_reducible rfl
            try simp only [Act.put, List.setIfInBounds_toArray, List.set_cons_zero, List.set_cons_succ]
            refine wpAnyH_ready (rs := [19]) (by kernel_rfl) (by simp) ?_
            refine AllReadyH.cons (o := { dst := some 99, op := Go.Op.call { callee := Go.Callee.value (Go.Operand.func 15), args := #[Go.Operand.tmp 97, Go.Operand.tmp 98], argTypes := #[23, 3] }, type := 3, pos := "outright.go:80", after := #[{ on := 17, ground := Go.Ground.data }, { on := 18, ground := Go.Ground.data }, { on := 16, ground := Go.Ground.chain }, { on := 16, ground := Go.Ground.guard }], guard := some (16, false) }) rfl (fun K hK => ?_) AllReadyH.nil
            go_simp
            refine (HCn.out _ (HZd.out.ext (Ext.refl _))).mono ?_
            rintro e w7 ⟨rfl, hx7⟩
            have HX7 : Hid (Ext wr.drew w7) := Lib.hid hx7
            have hw7 := HKJ.out _ HX7.out
            go_wp2_with fail
            refine hK.out _ _ (hw7) (fun hHeld => ?_)
            clear hK K
            try simp only [Act.put, List.setIfInBounds_toArray, List.set_cons_zero, List.set_cons_succ]
            refine wpAnyH_ready (rs := [24]) (by kernel_rfl) (by simp) ?_
            refine AllReadyH.cons (o := { dst := some 104, op := Go.Op.call { callee := Go.Callee.value (Go.Operand.func 25), args := #[Go.Operand.tmp 102, Go.Operand.tmp 103], argTypes := #[45, 3] }, type := 51, pos := "outright.go:80", after := #[{ on := 22, ground := Go.Ground.data }, { on := 23, ground := Go.Ground.data }, { on := 19, ground := Go.Ground.chain }, { on := 16, ground := Go.Ground.guard }], guard := some (16, false) }) rfl (fun K hK => ?_) AllReadyH.nil
            go_simp
            refine (HMem.out _).mono ?_
            rintro e w8 ⟨AM, cM, rfl, hLM, hx8⟩
            have HX8 : Hid (Ext wr.drew w8) := Lib.hid (HX7.out.trans hx8)
            have hw8 := HKJ.out _ HX8.out
            have hcM := hLM.cap
            have hmM := hLM.most
            go_wp2_with fail
            refine hK.out _ _ (hw8) (fun hHeld => ?_)
            clear hK K
            try simp only [Act.put, List.setIfInBounds_toArray, List.set_cons_zero, List.set_cons_succ]
            refine wpAnyH_take (i := 25) (oi := { dst := some 105, op := Go.Op.call { callee := Go.Callee.builtin Go.Builtin.len, args := #[Go.Operand.tmp 104], argTypes := #[51] }, type := 3, pos := "outright.go:80", after := #[{ on := 24, ground := Go.Ground.data }, { on := 16, ground := Go.Ground.guard }], guard := some (16, false) }) (v := ?_) rfl (by kernel_rfl) (by kernel_rfl) (by kernel_rfl) (fun _ _ _ h => h) (Or.inl ⟨by rfl, ?_⟩) (by assumption) ?_
            rotate_left
            · intro w9 hSw
              try dsimp only at hSw
              go_simp
              try with_reducible rfl
            try simp only [Act.put, List.setIfInBounds_toArray, List.set_cons_zero, List.set_cons_succ]
            refine wpAnyH_take (i := 26) (oi := { dst := some 106, op := Go.Op.binOp Go.BinOp.neq 3 (Go.Operand.tmp 99) (Go.Operand.tmp 105) 3, type := 4, pos := "outright.go:80", after := #[{ on := 19, ground := Go.Ground.data }, { on := 25, ground := Go.Ground.data }, { on := 16, ground := Go.Ground.guard }], guard := some (16, false) }) (v := ?_) rfl (by kernel_rfl) (by kernel_rfl) (by kernel_rfl) (fun _ _ _ h => h) (Or.inl ⟨by rfl, ?_⟩) (by assumption) ?_
            rotate_left
            · intro w9 hSw
              try dsimp only at hSw
              go_simp
              try with_reducible rfl
            try simp only [Act.put, List.setIfInBounds_toArray, List.set_cons_zero, List.set_cons_succ]
            refine wpAnyH_take (i := 27) (oi := { dst := some 107, op := Go.Op.pick (Go.Operand.tmp 96) (Go.Operand.const (Go.Value.bool true)) (Go.Operand.tmp 106), type := 4, pos := "outright.go:80", after := #[{ on := 16, ground := Go.Ground.data }, { on := 26, ground := Go.Ground.data }], guard := none }) (v := ?_) rfl (by kernel_rfl) (by kernel_rfl) (by kernel_rfl) (fun _ _ _ h => h) (Or.inl ⟨by rfl, ?_⟩) (by assumption) ?_
            rotate_left
            · intro w9 hSw
              try dsimp only at hSw
              go_simp
              try with_reducible rfl
            try simp only [Act.put, List.setIfInBounds_toArray, List.set_cons_zero, List.set_cons_succ]
            refine wpAnyH_done (by kernel_rfl) ?_ _
            clear hHeld
            have HXn : Hid (Ext wr w8) := Lib.hid ((Ext.refl wr).drew.trans HX8.out)
            have HZ := Lib.hid (HZ.out.ext HXn.out)
            have HX := Lib.hid (HX.out.trans HXn.out)
            have HR : Hid (w8.heap[b8]? = some (.cells (arrT L) 46 (0, 0))) := Lib.hid ((HXn.out.block _ (Array.getElem?_eq_some_iff.1 HR.out).1).trans HR.out)
            have hlen := HLen.out
            go_wp2_with fail
            go_roundw
            case rel => exact ⟨j + 1, by omega, by omega, by go_num, HZ, HR, HX⟩
            case measure => simp [intOf]; omega
        · obtain rfl : j = 80 := by omega
          go_wp2_with fail
          go_ret
          exact ⟨rfl, HX.out⟩
end Go.Proofs.Ytmnldkfkcfnkdaa
