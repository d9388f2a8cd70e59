/-
  The contracts of the document's tally's Note and Drop.
-/
import Derived.Test.YtmnldkfkcfnkdaaTlRef2
import Derived.Deep.AppendLies
import Derived.Deep.DeepCutAuto
import Derived.Deep.RegionHeld
namespace Go.Proofs.Ytmnldkfkcfnkdaa
open Go Go.RowKit Go.Maps

theorem row_infoT : (Try.prog.info? 61).map (fun i => (i.zero, i.size, i.bytes)) = some (some (.agg #[.int .i64 0, .int .u8 0]), 2, 16) := by kernel_rfl
theorem flat_setT {k : Nat} {p : Int × Nat} {s : Nat} : ∀ {L : List (Int × Nat)}, L[k]? = some p → (L.set k (p.1, s)).flatMap rowC = (L.flatMap rowC).set (k * 2 + 1) (.int .u8 (s : Int)) := by
  induction k with
  | zero =>
    intro L h
    cases L with
    | nil => cases h
    | cons a l =>
      obtain rfl : a = p := Option.some.inj h
      rfl
  | succ k ih =>
    intro L h
    cases L with
    | nil => cases h
    | cons a l =>
      have h' : l[k]? = some p := h
      rw [List.set_cons_succ, List.flatMap_cons, List.flatMap_cons, ih h', show (k + 1) * 2 + 1 = (k * 2 + 1) + 2 by omega]
      rfl
theorem own_setT {w : World} {B : Nat} {v : Value} {L : List (Int × Nat)} (h : w.ownsRow B 61 2 v L.length (L.flatMap rowC)) {k : Nat} {p : Int × Nat} (hk : L[k]? = some p) (s : Nat) {g cap : Nat} (hv : v = .slice (some ⟨g, 0, none⟩) L.length cap) :
    (w.setCell ⟨g, k * 2 + 1, none⟩ (.int .u8 (s : Int))).ownsRow B 61 2 v (L.set k (p.1, s)).length ((L.set k (p.1, s)).flatMap rowC) := by
  have hlt : k < L.length := (List.getElem?_eq_some_iff.1 hk).1
  rcases h.2 with ⟨rfl, hz⟩ | ⟨g', cap', cur, rfl, hB, hg, hn, hm, hs, ht⟩
  · cases hv
  · injection hv with h1 h2 h3
    injection h1 with h1
    injection h1 with h1
    subst h1 h3
    have hr := row_setQ (w := w) (g := g') (cs' := cur.setIfInBounds (k * 2 + 1) (.int .u8 (s : Int))) (k * 2 + 1) hg (.int .u8 (s : Int)) rfl
    refine ⟨?_, .inr ⟨g', cap', _, by rw [List.length_set], hB, hr, by rw [List.length_set]; exact hn, hm, by rw [Array.size_setIfInBounds]; exact hs, ?_⟩⟩
    · rw [flat_setT hk, List.length_set, List.length_set]
      exact h.1
    · rw [List.length_set, flat_setT hk, ← ht, Array.toList_setIfInBounds, List.take_set]
/-- A row of an owned list, whatever it holds. -/
theorem own_atT {w : World} {B : Nat} {v : Value} {L : List (Int × Nat)} (h : w.ownsRow B 61 2 v L.length (L.flatMap rowC)) {k : Nat} {p : Int × Nat} (hk : L[k]? = some p) :
    ∃ g cap, v = .slice (some ⟨g, 0, none⟩) L.length cap ∧ B ≤ g ∧ g < w.heap.size ∧ L.length ≤ cap ∧ cap ≤ 9223372036854775807 ∧ (∃ cur, w.heap[g]? = some (.cells cur 61 (0, 0))) ∧ w.cell? ⟨g, k * 2, none⟩ = some (.int .i64 p.1) ∧ w.cell? ⟨g, k * 2 + 1, none⟩ = some (.int .u8 (p.2 : Int)) := by
  have hlt : k < L.length := (List.getElem?_eq_some_iff.1 hk).1
  obtain ⟨A, c, hv, hL⟩ := Ls.of_own (cells := rowC) (fun _ => rfl) (by omega) h
  rcases h.2 with ⟨rfl, hz⟩ | ⟨g, cap, cur, rfl, hB, hg, hn, hm, hs, ht⟩
  · omega
  · injection hv with h1 h2 h3
    subst h1 h3
    obtain ⟨g', o', e1, _, hc⟩ := hL.rd (by omega)
    injection e1 with e1
    injection e1 with e1 e2
    subst e1 e2
    have hc := hc k p hk
    have h0 := hc 0 _ rfl
    have h1 := hc 1 _ rfl
    rw [Nat.zero_add] at h0 h1
    exact ⟨g, cap, rfl, hB, (Array.getElem?_eq_some_iff.1 hg).1, hn, hL.most, ⟨cur, hg⟩, h0, h1⟩
theorem set_at : ∀ {L : List (Int × Nat)} {j : Nat} {k : Int} {s : Nat} (t : Nat), (L.map Prod.fst).Nodup → L[j]? = some (k, s) → setT L k t = L.set j (k, t)
  | [], _, _, _, _, _, h => by simp at h
  | p :: L, 0, k, s, t, _, h => by
    obtain rfl : p = (k, s) := Option.some.inj h
    simp [setT]
  | p :: L, j + 1, k, s, t, hn, h => by
    rw [List.map_cons, List.nodup_cons] at hn
    have h' : L[j]? = some (k, s) := h
    have hne : ¬ p.1 = k := fun e => hn.1 (by rw [e]; exact List.mem_map.2 ⟨_, List.mem_of_getElem? h', rfl⟩)
    unfold setT
    rw [if_neg hne, set_at t hn.2 h', List.set_cons_succ]
theorem set_new : ∀ {L : List (Int × Nat)} {k : Int} (t : Nat), k ∉ L.map Prod.fst → setT L k t = (L ++ [(k, 0)]).set L.length (k, t)
  | [], _, _, _ => rfl
  | p :: L, k, t, h => by
    rw [List.map_cons, List.mem_cons, not_or] at h
    unfold setT
    rw [if_neg (fun e => h.1 e.symm), set_new t h.2]
    rfl
theorem low_cells {w w' : World} {q : Nat} (h : Below q w w') {i k : Nat} {v : Value} (hi : i < q) (hc : w.cell? ⟨i, k, none⟩ = some v) : w'.cell? ⟨i, k, none⟩ = some v := (h.cell (p := ⟨i, k, none⟩) hi).trans hc
theorem low_of_ext {w w' : World} {q : Nat} (hq : q ≤ w.heap.size) (h : Ext w w') : Below q w w' := ⟨h.os, h.tape, h.output, h.size, fun k hk => h.block k (by omega)⟩
theorem low_of_mod {w w' : World} {q : Nat} {F : Nat → Prop} (hq : q ≤ w.heap.size) (h : Mod F w w') (hF : ∀ i, F i → q ≤ i) : Below q w w' := ⟨h.os, h.tape, h.output, h.size, fun k hk => h.block k (by omega) fun hf => by have := hF k hf; omega⟩
/-- The blocks that the document's tally writes: its own, and its rows'. -/
def FR (q : Nat) (v : Value) (k : Nat) : Prop := k = q ∨ v.ownBlock = some k
theorem low_trans {a b c : World} {q : Nat} (h : Below q a b) (k : Below q b c) : Below q a c := Below.trans h k
set_option maxRecDepth 100000 in
set_option maxHeartbeats 1600000 in
/-- Note, where an argument may not be. -/
theorem rnote_arg {w : World} {q n : Nat} {v : Value} {L : List (Int × Nat)} (z : RQ w q n v L) (i r : Int) (ha : ¬ (1 ≤ i ∧ i ≤ 1099511627776) ∨ r < 0 ∨ (n : Int) ≤ r) :
    Calls Try.prog 12 #[.pointer (some ⟨q, 0, none⟩), .int .i64 i, .int .i64 r] w fun e w' => e = .returned (.int .i64 2) ∧ w = w' := by
  obtain ⟨c0, c1⟩ := z.cells
  clear z
  by_cases q1 : i < 1
  · have d1 : decide (i < 1) = true := decide_eq_true q1
    clear ha
    go_enter Try.func12, Try.ntmps12
    go_wp2_with fail
    go_ret
    exact ⟨rfl, rfl⟩
  have d1 : decide (i < 1) = false := decide_eq_false q1
  by_cases q2 : 1099511627776 < i
  · have d2 : decide (1099511627776 < i) = true := decide_eq_true q2
    clear ha
    go_enter Try.func12, Try.ntmps12
    go_wp2_with fail
    go_ret
    exact ⟨rfl, rfl⟩
  have d2 : decide (1099511627776 < i) = false := decide_eq_false q2
  by_cases q3 : r < 0
  · have d3 : decide (r < 0) = true := decide_eq_true q3
    clear ha
    go_enter Try.func12, Try.ntmps12
    go_wp2_with fail
    go_ret
    exact ⟨rfl, rfl⟩
  have d3 : decide (r < 0) = false := decide_eq_false q3
  have q4 : (n : Int) ≤ r := by omega
  have d4 : decide ((n : Int) ≤ r) = true := decide_eq_true q4
  clear ha
  go_enter Try.func12, Try.ntmps12
  go_wp2_with fail
  go_ret
  exact ⟨rfl, rfl⟩
theorem low_own {w w' : World} {q n : Nat} {v : Value} {L : List (Int × Nat)} (z : RQ w q n v L) (hx : Ext w w') : RQ w' q n v L := z.ext hx
set_option maxRecDepth 100000 in
set_option maxHeartbeats 3200000 in
/-- Note, where it may be. -/
theorem rnote_in {w : World} {q n : Nat} {v : Value} {L : List (Int × Nat)} (z : RQ w q n v L) (i r : Int) (h1 : 1 ≤ i ∧ i ≤ 1099511627776) (h2 : ¬ r < 0) (h3 : ¬ (n : Int) ≤ r) :
    Calls Try.prog 12 #[.pointer (some ⟨q, 0, none⟩), .int .i64 i, .int .i64 r] w fun e w' => e = .returned (.int .i64 (errT n L i r : Nat)) ∧ ∃ v', RQ w' q n v' (noteT n L i r) ∧ Below q w w' ∧ Mod (FR q v) w w' := by
  obtain ⟨i0, hi0, hz0, hz1, hz2⟩ := info_parts row_infoT
  have HAT := Lib.hid (rat_of z i)
  have HZ := Lib.hid z
  have HE := Lib.hid (argT_yes h1 h2 h3 L)
  have HOK := Lib.hid (z.ok.note (n := (n : Int)) (by have := z.cnt; omega) i r)
  have HNT : Hid (errT (n : Int) L i r = 0 → noteT (n : Int) L i r = setT L i (addQ (lookT L i) r)) := Lib.hid (fun he => noteT_yes he)
  have HNN : Hid (errT (n : Int) L i r ≠ 0 → noteT (n : Int) L i r = L) := Lib.hid (fun he => noteT_no he)
  have d1 : decide (i < 1) = false := decide_eq_false (by omega)
  have d2 : decide (1099511627776 < i) = false := decide_eq_false (by omega)
  have d3 : decide (r < 0) = false := decide_eq_false h2
  have d4 : decide ((n : Int) ≤ r) = false := decide_eq_false h3
  have p1 : ¬ i < 1 := by omega
  have p2 : ¬ 1099511627776 < i := by omega
  obtain ⟨c0, c1⟩ := z.cells
  obtain ⟨er, her⟩ : ∃ er, errT (n : Int) L i r = er := ⟨_, rfl⟩
  obtain ⟨M, hM⟩ : ∃ M, noteT (n : Int) L i r = M := ⟨_, rfl⟩
  rw [her, hM] at HNT HNN
  rw [her] at HE
  rw [hM] at HOK
  rw [her, hM]
  have h64 := z.ok.most
  have HF := Lib.hid z.form
  clear z her hM h1
  go_enter Try.func12, Try.ntmps12
  go_wp2_with fail
  refine HAT.out.mono ?_
  rintro e w1 ⟨hat, rfl⟩
  rcases hat.cases HZ.out.ok with ⟨j, rfl, hj, hne⟩ | ⟨rfl, h0⟩
  · have hjl := (List.getElem?_eq_some_iff.1 hj).1
    have hj0 : ¬ (j : Int) < 0 := by omega
    have hji : (j : Int) < (L.length : Int) := by omega
    have he0 : er = 0 := by have := HE.out; rw [if_neg (by omega)] at this; exact this
    subst he0
    have hM := HNT.out rfl
    obtain ⟨g, cap, rfl, hB, hg, hcap, hmost, ⟨cur, hcur⟩, _, e1⟩ := HZ.out.at_ hj
    have HADD := Lib.hid (fun W => radd_of (lookT L i) (HZ.out.ok.look_lt i) r W)
    have hS1 : w.drew.cell? ⟨q, 1, none⟩ = some (.slice (some ⟨g, 0, none⟩) L.length cap) := c1
    have hby : w.drew.cell? ⟨g, j * 2 + 1, none⟩ = some (.int .u8 (lookT L i : Int)) := e1
    have fby : w.drew.frozen? ⟨g, j * 2 + 1, none⟩ = false := frozen_of_row w g _ _ _ hcur
    have hmg : ∀ x, Mod (fun k => k = g) w (w.drew.setCell ⟨g, j * 2 + 1, none⟩ x) := fun x => (Mod.of_ext (Ext.refl w).drew).trans (Mod.setCell (F := fun k => k = g) (Mod.refl _ _) (p := ⟨g, j * 2 + 1, none⟩) (.inl rfl) x) fun _ hi => .inl hi
    have HK2 : ∀ x, Hid ((w.setCell ⟨g, j * 2 + 1, none⟩ x).drew.cell? ⟨q, 1, none⟩ = some (.slice (some ⟨g, 0, none⟩) L.length cap)) := fun x => Lib.hid (mod_cellT (hmg x) (by omega) c1)
    have HR : ∀ s : Nat, Hid (setT L i s = M → RQ (w.drew.setCell ⟨g, j * 2 + 1, none⟩ (.int .u8 (s : Int))) q n (.slice (some ⟨g, 0, none⟩) L.length cap) M ∧ Below q w (w.drew.setCell ⟨g, j * 2 + 1, none⟩ (.int .u8 (s : Int))) ∧ Mod (FR q (.slice (some ⟨g, 0, none⟩) L.length cap)) w (w.drew.setCell ⟨g, j * 2 + 1, none⟩ (.int .u8 (s : Int)))) := fun s => Lib.hid (fun e => by
      have hset := set_at s HZ.out.ok.nod hj
      have how := own_setT (w := w.drew) (ownsRow_extL HZ.out.own (Ext.refl w).drew) hj s rfl
      refine ⟨⟨heap_mod HZ.out.row (hmg _) (by omega), ?_, HOK.out, HZ.out.cnt⟩, low_of_mod (Nat.le_of_lt HZ.out.lt) (hmg _) (fun k hk => by omega), (hmg _).mono fun k hk => .inr (by rw [hk]; rfl)⟩
      rw [← e, hset]
      exact how)
    have HMM := Lib.hid hM
    obtain ⟨s, hs⟩ : ∃ s, lookT L i = s := ⟨_, rfl⟩
    rw [hs] at HADD hby HMM
    clear hat hj hne HAT hM hcur e1 hmg hs HE
    go_wp2_with fail
    go_upto_region 9 with (fail)
    refine wp_region_held_drew (S := fun w' => w'.cell? ⟨q, 1, none⟩ = some (.slice (some ⟨g, 0, none⟩) L.length cap)) (by kernel_rfl) (hS1) (fun hHeld => ?_)
    refine wpAnyH_take (i := 0) (oi := { dst := some 58, op := Go.Op.move (Go.Operand.tmp 0), type := 27, pos := "ref.go:59", after := #[], guard := none }) (v := ?_) rfl (by kernel_rfl) (by kernel_rfl) (by kernel_rfl) (fun _ _ _ h => h) (Or.inl ⟨by rfl, ?_⟩) (by assumption) ?_
    rotate_left
    · intro w9 hSw
      try dsimp only at hSw
      go_simp
      try with_reducible rfl
    try simp only [Act.put, List.setIfInBounds_toArray, List.set_cons_zero, List.set_cons_succ]
    refine wpAnyH_take (i := 1) (oi := { dst := some 59, op := Go.Op.nilCheck (Go.Operand.tmp 58), type := 0, pos := "ref.go:59", after := #[{ on := 0, ground := Go.Ground.data }], guard := none }) (v := ?_) rfl (by kernel_rfl) (by kernel_rfl) (by kernel_rfl) (fun _ _ _ h => h) (Or.inl ⟨by rfl, ?_⟩) (by assumption) ?_
    rotate_left
    · intro w9 hSw
      try dsimp only at hSw
      go_simp
      try with_reducible rfl
    try simp only [Act.put, List.setIfInBounds_toArray, List.set_cons_zero, List.set_cons_succ]
    refine wpAnyH_take (i := 2) (oi := { dst := some 60, op := Go.Op.fieldAddr 58 (Go.Operand.tmp 59) 1, type := 0, pos := "ref.go:59", after := #[{ on := 1, ground := Go.Ground.data }], guard := none }) (v := ?_) rfl (by kernel_rfl) (by kernel_rfl) (by kernel_rfl) (fun _ _ _ h => h) (Or.inl ⟨by rfl, ?_⟩) (by assumption) ?_
    rotate_left
    · intro w9 hSw
      try dsimp only at hSw
      go_simp
      try with_reducible rfl
    try simp only [Act.put, List.setIfInBounds_toArray, List.set_cons_zero, List.set_cons_succ]
    refine wpAnyH_take (i := 3) (oi := { dst := some 61, op := Go.Op.load 56 (Go.Operand.tmp 60), type := 56, pos := "ref.go:59", after := #[{ on := 2, ground := Go.Ground.data }], guard := none }) (v := ?_) rfl (by kernel_rfl) (by kernel_rfl) (by kernel_rfl) (fun _ _ _ h => h) (Or.inl ⟨by rfl, ?_⟩) (by assumption) ?_
    rotate_left
    · intro w9 hSw
      try dsimp only at hSw
      go_simp
      try with_reducible rfl
    try simp only [Act.put, List.setIfInBounds_toArray, List.set_cons_zero, List.set_cons_succ]
    refine wpAnyH_take (i := 4) (oi := { dst := some 62, op := Go.Op.move (Go.Operand.tmp 7), type := 3, pos := "ref.go:59", after := #[], guard := none }) (v := ?_) rfl (by kernel_rfl) (by kernel_rfl) (by kernel_rfl) (fun _ _ _ h => h) (Or.inl ⟨by rfl, ?_⟩) (by assumption) ?_
    rotate_left
    · intro w9 hSw
      try dsimp only at hSw
      go_simp
      try with_reducible rfl
    try simp only [Act.put, List.setIfInBounds_toArray, List.set_cons_zero, List.set_cons_succ]
    refine wpAnyH_take (i := 5) (oi := { dst := some 63, op := Go.Op.move (Go.Operand.tmp 0), type := 27, pos := "ref.go:59", after := #[], guard := none }) (v := ?_) rfl (by kernel_rfl) (by kernel_rfl) (by kernel_rfl) (fun _ _ _ h => h) (Or.inl ⟨by rfl, ?_⟩) (by assumption) ?_
    rotate_left
    · intro w9 hSw
      try dsimp only at hSw
      go_simp
      try with_reducible rfl
    try simp only [Act.put, List.setIfInBounds_toArray, List.set_cons_zero, List.set_cons_succ]
    refine wpAnyH_take (i := 6) (oi := { dst := some 64, op := Go.Op.nilCheck (Go.Operand.tmp 63), type := 0, pos := "ref.go:59", after := #[{ on := 5, ground := Go.Ground.data }], guard := none }) (v := ?_) rfl (by kernel_rfl) (by kernel_rfl) (by kernel_rfl) (fun _ _ _ h => h) (Or.inl ⟨by rfl, ?_⟩) (by assumption) ?_
    rotate_left
    · intro w9 hSw
      try dsimp only at hSw
      go_simp
      try with_reducible rfl
    try simp only [Act.put, List.setIfInBounds_toArray, List.set_cons_zero, List.set_cons_succ]
    refine wpAnyH_take (i := 7) (oi := { dst := some 65, op := Go.Op.fieldAddr 58 (Go.Operand.tmp 64) 1, type := 0, pos := "ref.go:59", after := #[{ on := 6, ground := Go.Ground.data }], guard := none }) (v := ?_) rfl (by kernel_rfl) (by kernel_rfl) (by kernel_rfl) (fun _ _ _ h => h) (Or.inl ⟨by rfl, ?_⟩) (by assumption) ?_
    rotate_left
    · intro w9 hSw
      try dsimp only at hSw
      go_simp
      try with_reducible rfl
    try simp only [Act.put, List.setIfInBounds_toArray, List.set_cons_zero, List.set_cons_succ]
    refine wpAnyH_take (i := 8) (oi := { dst := some 66, op := Go.Op.load 56 (Go.Operand.tmp 65), type := 56, pos := "ref.go:59", after := #[{ on := 7, ground := Go.Ground.data }], guard := none }) (v := ?_) rfl (by kernel_rfl) (by kernel_rfl) (by kernel_rfl) (fun _ _ _ h => h) (Or.inl ⟨by rfl, ?_⟩) (by assumption) ?_
    rotate_left
    · intro w9 hSw
      try dsimp only at hSw
      go_simp
      try with_reducible rfl
    try simp only [Act.put, List.setIfInBounds_toArray, List.set_cons_zero, List.set_cons_succ]
    refine wpAnyH_take (i := 9) (oi := { dst := some 67, op := Go.Op.move (Go.Operand.tmp 7), type := 3, pos := "ref.go:59", after := #[], guard := none }) (v := ?_) rfl (by kernel_rfl) (by kernel_rfl) (by kernel_rfl) (fun _ _ _ h => h) (Or.inl ⟨by rfl, ?_⟩) (by assumption) ?_
    rotate_left
    · intro w9 hSw
      try dsimp only at hSw
      go_simp
      try with_reducible rfl
    try simp only [Act.put, List.setIfInBounds_toArray, List.set_cons_zero, List.set_cons_succ]
    refine wpAnyH_take (i := 10) (oi := { dst := some 68, op := Go.Op.indexAddr 56 (Go.Operand.tmp 66) (Go.Operand.tmp 67), type := 0, pos := "ref.go:59", after := #[{ on := 8, ground := Go.Ground.data }, { on := 9, ground := Go.Ground.data }], guard := none }) (v := ?_) rfl (by kernel_rfl) (by kernel_rfl) (by kernel_rfl) (fun _ _ _ h => h) (Or.inl ⟨by rfl, ?_⟩) (by assumption) ?_
    rotate_left
    · intro w9 hSw
      try dsimp only at hSw
      go_simp
      try with_reducible rfl
    try simp only [Act.put, List.setIfInBounds_toArray, List.set_cons_zero, List.set_cons_succ]
    refine wpAnyH_take (i := 11) (oi := { dst := some 69, op := Go.Op.fieldAddr 61 (Go.Operand.tmp 68) 1, type := 0, pos := "ref.go:59", after := #[{ on := 10, ground := Go.Ground.data }], guard := none }) (v := ?_) rfl (by kernel_rfl) (by kernel_rfl) (by kernel_rfl) (fun _ _ _ h => h) (Or.inl ⟨by rfl, ?_⟩) (by assumption) ?_
    rotate_left
    · intro w9 hSw
      try dsimp only at hSw
      go_simp
      try with_reducible rfl
    try simp only [Act.put, List.setIfInBounds_toArray, List.set_cons_zero, List.set_cons_succ]
    refine wpAnyH_take (i := 13) (oi := { dst := some 71, op := Go.Op.move (Go.Operand.tmp 2), type := 3, pos := "ref.go:59", after := #[], guard := none }) (v := ?_) rfl (by kernel_rfl) (by kernel_rfl) (by kernel_rfl) (fun _ _ _ h => h) (Or.inl ⟨by rfl, ?_⟩) (by assumption) ?_
    rotate_left
    · intro w9 hSw
      try dsimp only at hSw
      go_simp
      try with_reducible rfl
    try simp only [Act.put, List.setIfInBounds_toArray, List.set_cons_zero, List.set_cons_succ]
    refine wpAnyH_ready (rs := [12]) (by kernel_rfl) (by simp) ?_
    refine AllReadyH.cons (o := { dst := some 70, op := Go.Op.load 5 (Go.Operand.tmp 69), type := 5, pos := "ref.go:59", after := #[{ on := 11, ground := Go.Ground.data }], guard := none }) rfl (fun K hK => ?_) AllReadyH.nil
    clear hHeld
    go_simp
    refine hK.out _ _ (hS1) (fun hHeld => ?_)
    clear hK K
    try simp only [Act.put, List.setIfInBounds_toArray, List.set_cons_zero, List.set_cons_succ]
    refine wpAnyH_ready (rs := [14]) (by kernel_rfl) (by simp) ?_
    refine AllReadyH.cons (o := { dst := some 72, op := Go.Op.call { callee := Go.Callee.value (Go.Operand.func 31), args := #[Go.Operand.tmp 70, Go.Operand.tmp 71], argTypes := #[5, 3] }, type := 5, pos := "ref.go:59", after := #[{ on := 12, ground := Go.Ground.data }, { on := 13, ground := Go.Ground.data }], guard := none }) rfl (fun K hK => ?_) AllReadyH.nil
    go_simp
    refine (HADD.out _).mono ?_
    rintro e' w4 ⟨rfl, rfl⟩
    go_wp2_with fail
    refine hK.out _ _ (hS1) (fun hHeld => ?_)
    clear hK K
    try simp only [Act.put, List.setIfInBounds_toArray, List.set_cons_zero, List.set_cons_succ]
    refine wpAnyH_take (i := 15) (oi := { dst := some 73, op := Go.Op.indexAddr 56 (Go.Operand.tmp 61) (Go.Operand.tmp 62), type := 0, pos := "ref.go:59", after := #[{ on := 3, ground := Go.Ground.data }, { on := 4, ground := Go.Ground.data }, { on := 0, ground := Go.Ground.phase }, { on := 1, ground := Go.Ground.phase }, { on := 2, ground := Go.Ground.phase }, { on := 3, ground := Go.Ground.phase }, { on := 4, ground := Go.Ground.phase }, { on := 5, ground := Go.Ground.phase }, { on := 6, ground := Go.Ground.phase }, { on := 7, ground := Go.Ground.phase }, { on := 8, ground := Go.Ground.phase }, { on := 9, ground := Go.Ground.phase }, { on := 10, ground := Go.Ground.phase }, { on := 11, ground := Go.Ground.phase }, { on := 12, ground := Go.Ground.phase }, { on := 13, ground := Go.Ground.phase }, { on := 14, ground := Go.Ground.phase }], guard := none }) (v := ?_) rfl (by kernel_rfl) (by kernel_rfl) (by kernel_rfl) (fun _ _ _ h => h) (Or.inl ⟨by rfl, ?_⟩) (by assumption) ?_
    rotate_left
    · intro w9 hSw
      try dsimp only at hSw
      go_simp
      try with_reducible rfl
    try simp only [Act.put, List.setIfInBounds_toArray, List.set_cons_zero, List.set_cons_succ]
    refine wpAnyH_take (i := 16) (oi := { dst := some 74, op := Go.Op.fieldAddr 61 (Go.Operand.tmp 73) 1, type := 0, pos := "ref.go:59", after := #[{ on := 15, ground := Go.Ground.data }, { on := 0, ground := Go.Ground.phase }, { on := 1, ground := Go.Ground.phase }, { on := 2, ground := Go.Ground.phase }, { on := 3, ground := Go.Ground.phase }, { on := 4, ground := Go.Ground.phase }, { on := 5, ground := Go.Ground.phase }, { on := 6, ground := Go.Ground.phase }, { on := 7, ground := Go.Ground.phase }, { on := 8, ground := Go.Ground.phase }, { on := 9, ground := Go.Ground.phase }, { on := 10, ground := Go.Ground.phase }, { on := 11, ground := Go.Ground.phase }, { on := 12, ground := Go.Ground.phase }, { on := 13, ground := Go.Ground.phase }, { on := 14, ground := Go.Ground.phase }], guard := none }) (v := ?_) rfl (by kernel_rfl) (by kernel_rfl) (by kernel_rfl) (fun _ _ _ h => h) (Or.inl ⟨by rfl, ?_⟩) (by assumption) ?_
    rotate_left
    · intro w9 hSw
      try dsimp only at hSw
      go_simp
      try with_reducible rfl
    try simp only [Act.put, List.setIfInBounds_toArray, List.set_cons_zero, List.set_cons_succ]
    refine wpAnyH_ready (rs := [17]) (by kernel_rfl) (by simp) ?_
    refine AllReadyH.cons (o := { dst := none, op := Go.Op.store 5 (Go.Operand.tmp 74) (Go.Operand.tmp 72), type := 0, pos := "ref.go:59", after := #[{ on := 16, ground := Go.Ground.data }, { on := 14, ground := Go.Ground.data }, { on := 14, ground := Go.Ground.chain }, { on := 0, ground := Go.Ground.phase }, { on := 1, ground := Go.Ground.phase }, { on := 2, ground := Go.Ground.phase }, { on := 3, ground := Go.Ground.phase }, { on := 4, ground := Go.Ground.phase }, { on := 5, ground := Go.Ground.phase }, { on := 6, ground := Go.Ground.phase }, { on := 7, ground := Go.Ground.phase }, { on := 8, ground := Go.Ground.phase }, { on := 9, ground := Go.Ground.phase }, { on := 10, ground := Go.Ground.phase }, { on := 11, ground := Go.Ground.phase }, { on := 12, ground := Go.Ground.phase }, { on := 13, ground := Go.Ground.phase }, { on := 14, ground := Go.Ground.phase }], guard := none }) rfl (fun K hK => ?_) AllReadyH.nil
    clear hHeld
    go_simp
    refine hK.out _ _ ((HK2 _).out) (fun hHeld => ?_)
    clear hK K
    try simp only [Act.put, List.setIfInBounds_toArray, List.set_cons_zero, List.set_cons_succ]
    refine wpAnyH_done (by kernel_rfl) ?_ _
    clear hHeld
    have hr := (HR (addQ s r)).out HMM.out.symm
    have HR2 := Lib.hid hr
    clear hr hS1 hby fby
    go_wp2_with fail
    go_ret
    exact ⟨rfl, _, HR2.out⟩
  · have hji : (-1 : Int) < 0 := by omega
    by_cases hf : 64 ≤ L.length
    · have hl : L.length = 64 := by omega
      have he4 : er = 4 := by have := HE.out; rw [if_pos ⟨h0, hf⟩] at this; exact this
      subst he4
      have hM := HNN.out (by decide)
      obtain ⟨A, c, rfl, hcap, hmost⟩ := HF.out
      rw [hl] at c1 hcap
      subst hM
      clear hat HAT hf hl
      go_wp2_with fail
      go_ret
      exact ⟨rfl, _, HZ.out, Below.refl _ _, Mod.refl _ _⟩
    · have he0 : er = 0 := by have := HE.out; rw [if_neg (by omega)] at this; exact this
      subst he0
      have hM := HNT.out rfl
      rw [h0] at hM
      have hl : ((L.length : Int) == 64) = false := by simp; omega
      have hl2 : ¬ L.length = 64 := by omega
      have hnew := set_new (addQ 0 r) (fun hm => (HZ.out.ok.held.1 hm) h0)
      obtain ⟨A, c, rfl, hcap, hmost⟩ := HF.out
      have f1 : w.frozen? ⟨q, 1, none⟩ = false := frozen_of_row w q 1 _ _ HZ.out.row
      have hx0 : Ext w (w.alloc (.cells #[.int .i64 i, .int .u8 0] 61)) := (Ext.refl w).alloc _
      have hr0 := heap_alloc_new w (.cells #[.int .i64 i, .int .u8 0] 61)
      have HX0 := Lib.hid hx0
      have HR0 := Lib.hid hr0
      have HQW := Lib.hid HZ.out.lt
      have HL1 := Lib.hid (ls_one (cells := rowC) (N := 2) (t := 61) ((i, 0) : Int × Nat) rfl hr0)
      have HMN := Lib.hid (hM.trans hnew)
      clear hat HAT hf hM hnew hx0 hr0
      go_wp2_with (at_builtin; refine wpList_append_lies _ rfl _ _ 56 rfl (q + 1) 61 i0 (.agg #[.int .i64 0, .int .u8 0]) 2 16 Try.underlying56 hi0 hz0 hz1 hz2 rfl (by decide) (.slice A L.length c) L.length (L.flatMap rowC) rfl (ownsRow_extL HZ.out.own HX0.out) ⟨w.heap.size, 0, none⟩ 1 1 (rowC (i, 0)) rfl rfl (fun j u hu => World.news_of_block HR0.out j u hu) (rowC_one _) (by omega) (by unfold maxLen; omega) (by omega) (by have := HQW.out; have := HX0.out.size; omega) (w.heap.size + 1) (by simp) ?_)
      intro g cap w2 ho hgr hat2 hglt
      have hown2 : w2.ownsRow (q + 1) 61 2 (.slice (some ⟨g, 0, none⟩) (L.length + 1) cap) (L ++ [((i, 0) : Int × Nat)]).length ((L ++ [((i, 0) : Int × Nat)]).flatMap rowC) := by
        rw [List.length_append, List.flatMap_append, List.flatMap_cons, List.flatMap_nil, List.append_nil]
        exact ho
      have hmod2 : Mod (FR q (.slice A L.length c)) w w2 := (Mod.of_ext HX0.out).grown hgr fun k hk => .inl (.inr hk)
      have HM2 := Lib.hid hmod2
      have HAT2 : Hid (FR q (.slice A L.length c) g ∨ w.heap.size ≤ g) := Lib.hid (by
        rcases hat2 with h | h
        · exact .inl (.inr h)
        · exact .inr (by omega))
      have hlow : Below q w w2 := by
        refine low_trans (low_of_ext (Nat.le_of_lt HQW.out) HX0.out) ⟨hgr.os, hgr.tape, hgr.output, hgr.size, fun k hk => hgr.block k (by have := HX0.out.size; have := HQW.out; omega) fun e => ?_⟩
        have := ((World.ownsRow.lt HZ.out.own) k e.symm).1
        omega
      have hrow2 : w2.heap[q]? = some (.cells #[.int .i64 (n : Int), .slice A L.length c] 58 (0, 0)) := by
        refine (hgr.block q (by have := HX0.out.size; have := HQW.out; omega) fun e => ?_).trans ((HX0.out.block q HQW.out).trans HZ.out.row)
        have := ((World.ownsRow.lt HZ.out.own) q e.symm).1
        omega
      have k1 : w2.cell? ⟨q, 1, none⟩ = some (.slice A L.length c) := cell_of_row w2 q 1 _ _ _ hrow2
      have k2 : w2.frozen? ⟨q, 1, none⟩ = false := frozen_of_row w2 q 1 _ _ hrow2
      have HO2 := Lib.hid hown2
      have HLO2 := Lib.hid hlow
      have HRW2 := Lib.hid hrow2
      clear ho hgr hown2 hlow hrow2 c0 c1 f1 hcap hmost hat2 hmod2
      obtain ⟨g3, cap3, hv2, hB, hg, hcap, hmost, -, -, -⟩ := own_atT HO2.out (k := L.length) (p := (i, 0)) (by simp)
      injection hv2 with hv2 hv3 hv4
      injection hv2 with hv2
      injection hv2 with hv2 hv5 hv6
      subst hv2 hv4
      rw [← hv3] at hcap
      clear hv3 hv5 hv6
      go_upto_region 8 with (fail)
      have hrow3 : (w2.setCell ⟨q, 1, none⟩ (.slice (some ⟨g, 0, none⟩) (L.length + 1) cap)).heap[q]? = some (.cells #[.int .i64 (n : Int), .slice (some ⟨g, 0, none⟩) (L.length + 1) cap] 58 (0, 0)) := row_setQ 1 HRW2.out _ rfl
      have hm3 : Mod (fun k => k = q) w2 (w2.setCell ⟨q, 1, none⟩ (.slice (some ⟨g, 0, none⟩) (L.length + 1) cap)) := Mod.setCell (F := fun k => k = q) (Mod.refl _ _) (p := ⟨q, 1, none⟩) (.inl rfl) _
      generalize w2.setCell ⟨q, 1, none⟩ (.slice (some ⟨g, 0, none⟩) (L.length + 1) cap) = w3 at *
      have hown3 := own_mod HO2.out hm3 (fun k hk hf => by have := ((World.ownsRow.lt HO2.out) k hk).1; omega)
      have HM3 := Lib.hid (HM2.out.trans hm3 fun k hk => .inl (.inl hk))
      have hlow3 : Below q w w3 := low_trans HLO2.out (low_of_mod (by have := HLO2.out.size; have := HQW.out; omega) hm3 fun k hk => by omega)
      obtain ⟨g', cap', hv3, -, -, -, -, ⟨cur, hcur⟩, -, e1⟩ := own_atT hown3 (k := L.length) (p := (i, 0)) (by simp)
      injection hv3 with hA hLe hC
      injection hA with hA
      injection hA with hA hOf hSp
      subst hA hC
      clear hLe hOf hSp
      have HADD := Lib.hid (fun W => radd_of 0 (by decide) r W)
      have c1 : w3.cell? ⟨q, 1, none⟩ = some (.slice (some ⟨g, 0, none⟩) (L.length + 1) cap) := cell_of_row w3 q 1 _ _ _ hrow3
      have hmg : ∀ x, Mod (fun k => k = g) w3 (w3.drew.setCell ⟨g, L.length * 2 + 1, none⟩ x) := fun x => (Mod.of_ext (Ext.refl w3).drew).trans (Mod.setCell (F := fun k => k = g) (Mod.refl _ _) (p := ⟨g, L.length * 2 + 1, none⟩) (.inl rfl) x) fun _ hi => .inl hi
      have HK2 : ∀ x, Hid ((w3.setCell ⟨g, L.length * 2 + 1, none⟩ x).drew.cell? ⟨q, 1, none⟩ = some (.slice (some ⟨g, 0, none⟩) (L.length + 1) cap)) := fun x => Lib.hid (mod_cellT (hmg x) (by omega) c1)
      have HR : Hid (RQ (w3.drew.setCell ⟨g, L.length * 2 + 1, none⟩ (.int .u8 (addQ 0 r : Int))) q n (.slice (some ⟨g, 0, none⟩) (L.length + 1) cap) M ∧ Below q w (w3.drew.setCell ⟨g, L.length * 2 + 1, none⟩ (.int .u8 (addQ 0 r : Int))) ∧ Mod (FR q (.slice A L.length c)) w (w3.drew.setCell ⟨g, L.length * 2 + 1, none⟩ (.int .u8 (addQ 0 r : Int)))) := Lib.hid (by
        have how := own_setT (w := w3.drew) (ownsRow_extL hown3 (Ext.refl w3).drew) (k := L.length) (p := (i, 0)) (by simp) (addQ 0 r) (g := g) (cap := cap) (by rw [List.length_append]; rfl)
        refine ⟨⟨heap_mod hrow3 (hmg _) (by omega), ?_, HOK.out, HZ.out.cnt⟩, low_trans hlow3 (low_of_mod (by have := hlow3.size; have := HQW.out; omega) (hmg _) (fun k hk => by omega)), HM3.out.trans (hmg _) fun k hk => by subst hk; exact HAT2.out⟩
        rw [HMN.out]
        exact how)
      have hlen : (L.length : Int) + 1 - 1 = (L.length : Int) := by omega
      have hcap3 : ((L.length : Int) + 1) ≤ (cap : Int) := by omega
      have hlt1 : (L.length : Int) < (L.length : Int) + 1 := by omega
      have HCU := Lib.hid hcur
      have HE1 := Lib.hid e1
      clear hrow3 hm3 hown3 hlow3 hcur e1 hmg k1 k2 h0 HK2
      go_upto_region 9 with (fail)
      have e1 := HE1.out
      have hcur := HCU.out
      have hS1 : w3.drew.cell? ⟨q, 1, none⟩ = some (.slice (some ⟨g, 0, none⟩) (L.length + 1) cap) := c1
      have hby : w3.drew.cell? ⟨g, L.length * 2 + 1, none⟩ = some (.int .u8 0) := e1
      have fby : w3.drew.frozen? ⟨g, L.length * 2 + 1, none⟩ = false := frozen_of_row w3 g _ _ _ hcur
      have hmg : ∀ x, Mod (fun k => k = g) w3 (w3.drew.setCell ⟨g, L.length * 2 + 1, none⟩ x) := fun x => (Mod.of_ext (Ext.refl w3).drew).trans (Mod.setCell (F := fun k => k = g) (Mod.refl _ _) (p := ⟨g, L.length * 2 + 1, none⟩) (.inl rfl) x) fun _ hi => .inl hi
      have HK2 : ∀ x, Hid ((w3.setCell ⟨g, L.length * 2 + 1, none⟩ x).drew.cell? ⟨q, 1, none⟩ = some (.slice (some ⟨g, 0, none⟩) (L.length + 1) cap)) := fun x => Lib.hid (mod_cellT (hmg x) (by omega) c1)
      clear e1 hcur hmg
      refine wp_region_held_drew (S := fun w' => w'.cell? ⟨q, 1, none⟩ = some (.slice (some ⟨g, 0, none⟩) (L.length + 1) cap)) (by kernel_rfl) (hS1) (fun hHeld => ?_)
      refine wpAnyH_take (i := 0) (oi := { dst := some 58, op := Go.Op.move (Go.Operand.tmp 0), type := 27, pos := "ref.go:59", after := #[], guard := none }) (v := ?_) rfl (by kernel_rfl) (by kernel_rfl) (by kernel_rfl) (fun _ _ _ h => h) (Or.inl ⟨by rfl, ?_⟩) (by assumption) ?_
      rotate_left
      · intro w9 hSw
        try dsimp only at hSw
        go_simp
        try with_reducible rfl
      try simp only [Act.put, List.setIfInBounds_toArray, List.set_cons_zero, List.set_cons_succ]
      refine wpAnyH_take (i := 1) (oi := { dst := some 59, op := Go.Op.nilCheck (Go.Operand.tmp 58), type := 0, pos := "ref.go:59", after := #[{ on := 0, ground := Go.Ground.data }], guard := none }) (v := ?_) rfl (by kernel_rfl) (by kernel_rfl) (by kernel_rfl) (fun _ _ _ h => h) (Or.inl ⟨by rfl, ?_⟩) (by assumption) ?_
      rotate_left
      · intro w9 hSw
        try dsimp only at hSw
        go_simp
        try with_reducible rfl
      try simp only [Act.put, List.setIfInBounds_toArray, List.set_cons_zero, List.set_cons_succ]
      refine wpAnyH_take (i := 2) (oi := { dst := some 60, op := Go.Op.fieldAddr 58 (Go.Operand.tmp 59) 1, type := 0, pos := "ref.go:59", after := #[{ on := 1, ground := Go.Ground.data }], guard := none }) (v := ?_) rfl (by kernel_rfl) (by kernel_rfl) (by kernel_rfl) (fun _ _ _ h => h) (Or.inl ⟨by rfl, ?_⟩) (by assumption) ?_
      rotate_left
      · intro w9 hSw
        try dsimp only at hSw
        go_simp
        try with_reducible rfl
      try simp only [Act.put, List.setIfInBounds_toArray, List.set_cons_zero, List.set_cons_succ]
      refine wpAnyH_take (i := 3) (oi := { dst := some 61, op := Go.Op.load 56 (Go.Operand.tmp 60), type := 56, pos := "ref.go:59", after := #[{ on := 2, ground := Go.Ground.data }], guard := none }) (v := ?_) rfl (by kernel_rfl) (by kernel_rfl) (by kernel_rfl) (fun _ _ _ h => h) (Or.inl ⟨by rfl, ?_⟩) (by assumption) ?_
      rotate_left
      · intro w9 hSw
        try dsimp only at hSw
        go_simp
        try with_reducible rfl
      try simp only [Act.put, List.setIfInBounds_toArray, List.set_cons_zero, List.set_cons_succ]
      refine wpAnyH_take (i := 4) (oi := { dst := some 62, op := Go.Op.move (Go.Operand.tmp 7), type := 3, pos := "ref.go:59", after := #[], guard := none }) (v := ?_) rfl (by kernel_rfl) (by kernel_rfl) (by kernel_rfl) (fun _ _ _ h => h) (Or.inl ⟨by rfl, ?_⟩) (by assumption) ?_
      rotate_left
      · intro w9 hSw
        try dsimp only at hSw
        go_simp
        try with_reducible rfl
      try simp only [Act.put, List.setIfInBounds_toArray, List.set_cons_zero, List.set_cons_succ]
      refine wpAnyH_take (i := 5) (oi := { dst := some 63, op := Go.Op.move (Go.Operand.tmp 0), type := 27, pos := "ref.go:59", after := #[], guard := none }) (v := ?_) rfl (by kernel_rfl) (by kernel_rfl) (by kernel_rfl) (fun _ _ _ h => h) (Or.inl ⟨by rfl, ?_⟩) (by assumption) ?_
      rotate_left
      · intro w9 hSw
        try dsimp only at hSw
        go_simp
        try with_reducible rfl
      try simp only [Act.put, List.setIfInBounds_toArray, List.set_cons_zero, List.set_cons_succ]
      refine wpAnyH_take (i := 6) (oi := { dst := some 64, op := Go.Op.nilCheck (Go.Operand.tmp 63), type := 0, pos := "ref.go:59", after := #[{ on := 5, ground := Go.Ground.data }], guard := none }) (v := ?_) rfl (by kernel_rfl) (by kernel_rfl) (by kernel_rfl) (fun _ _ _ h => h) (Or.inl ⟨by rfl, ?_⟩) (by assumption) ?_
      rotate_left
      · intro w9 hSw
        try dsimp only at hSw
        go_simp
        try with_reducible rfl
      try simp only [Act.put, List.setIfInBounds_toArray, List.set_cons_zero, List.set_cons_succ]
      refine wpAnyH_take (i := 7) (oi := { dst := some 65, op := Go.Op.fieldAddr 58 (Go.Operand.tmp 64) 1, type := 0, pos := "ref.go:59", after := #[{ on := 6, ground := Go.Ground.data }], guard := none }) (v := ?_) rfl (by kernel_rfl) (by kernel_rfl) (by kernel_rfl) (fun _ _ _ h => h) (Or.inl ⟨by rfl, ?_⟩) (by assumption) ?_
      rotate_left
      · intro w9 hSw
        try dsimp only at hSw
        go_simp
        try with_reducible rfl
      try simp only [Act.put, List.setIfInBounds_toArray, List.set_cons_zero, List.set_cons_succ]
      refine wpAnyH_take (i := 8) (oi := { dst := some 66, op := Go.Op.load 56 (Go.Operand.tmp 65), type := 56, pos := "ref.go:59", after := #[{ on := 7, ground := Go.Ground.data }], guard := none }) (v := ?_) rfl (by kernel_rfl) (by kernel_rfl) (by kernel_rfl) (fun _ _ _ h => h) (Or.inl ⟨by rfl, ?_⟩) (by assumption) ?_
      rotate_left
      · intro w9 hSw
        try dsimp only at hSw
        go_simp
        try with_reducible rfl
      try simp only [Act.put, List.setIfInBounds_toArray, List.set_cons_zero, List.set_cons_succ]
      refine wpAnyH_take (i := 9) (oi := { dst := some 67, op := Go.Op.move (Go.Operand.tmp 7), type := 3, pos := "ref.go:59", after := #[], guard := none }) (v := ?_) rfl (by kernel_rfl) (by kernel_rfl) (by kernel_rfl) (fun _ _ _ h => h) (Or.inl ⟨by rfl, ?_⟩) (by assumption) ?_
      rotate_left
      · intro w9 hSw
        try dsimp only at hSw
        go_simp
        try with_reducible rfl
      try simp only [Act.put, List.setIfInBounds_toArray, List.set_cons_zero, List.set_cons_succ]
      refine wpAnyH_take (i := 10) (oi := { dst := some 68, op := Go.Op.indexAddr 56 (Go.Operand.tmp 66) (Go.Operand.tmp 67), type := 0, pos := "ref.go:59", after := #[{ on := 8, ground := Go.Ground.data }, { on := 9, ground := Go.Ground.data }], guard := none }) (v := ?_) rfl (by kernel_rfl) (by kernel_rfl) (by kernel_rfl) (fun _ _ _ h => h) (Or.inl ⟨by rfl, ?_⟩) (by assumption) ?_
      rotate_left
      · intro w9 hSw
        try dsimp only at hSw
        go_simp
        try with_reducible rfl
      try simp only [Act.put, List.setIfInBounds_toArray, List.set_cons_zero, List.set_cons_succ]
      refine wpAnyH_take (i := 11) (oi := { dst := some 69, op := Go.Op.fieldAddr 61 (Go.Operand.tmp 68) 1, type := 0, pos := "ref.go:59", after := #[{ on := 10, ground := Go.Ground.data }], guard := none }) (v := ?_) rfl (by kernel_rfl) (by kernel_rfl) (by kernel_rfl) (fun _ _ _ h => h) (Or.inl ⟨by rfl, ?_⟩) (by assumption) ?_
      rotate_left
      · intro w9 hSw
        try dsimp only at hSw
        go_simp
        try with_reducible rfl
      try simp only [Act.put, List.setIfInBounds_toArray, List.set_cons_zero, List.set_cons_succ]
      refine wpAnyH_take (i := 13) (oi := { dst := some 71, op := Go.Op.move (Go.Operand.tmp 2), type := 3, pos := "ref.go:59", after := #[], guard := none }) (v := ?_) rfl (by kernel_rfl) (by kernel_rfl) (by kernel_rfl) (fun _ _ _ h => h) (Or.inl ⟨by rfl, ?_⟩) (by assumption) ?_
      rotate_left
      · intro w9 hSw
        try dsimp only at hSw
        go_simp
        try with_reducible rfl
      try simp only [Act.put, List.setIfInBounds_toArray, List.set_cons_zero, List.set_cons_succ]
      refine wpAnyH_ready (rs := [12]) (by kernel_rfl) (by simp) ?_
      refine AllReadyH.cons (o := { dst := some 70, op := Go.Op.load 5 (Go.Operand.tmp 69), type := 5, pos := "ref.go:59", after := #[{ on := 11, ground := Go.Ground.data }], guard := none }) rfl (fun K hK => ?_) AllReadyH.nil
      clear hHeld
      go_simp
      refine hK.out _ _ (hS1) (fun hHeld => ?_)
      clear hK K
      try simp only [Act.put, List.setIfInBounds_toArray, List.set_cons_zero, List.set_cons_succ]
      refine wpAnyH_ready (rs := [14]) (by kernel_rfl) (by simp) ?_
      refine AllReadyH.cons (o := { dst := some 72, op := Go.Op.call { callee := Go.Callee.value (Go.Operand.func 31), args := #[Go.Operand.tmp 70, Go.Operand.tmp 71], argTypes := #[5, 3] }, type := 5, pos := "ref.go:59", after := #[{ on := 12, ground := Go.Ground.data }, { on := 13, ground := Go.Ground.data }], guard := none }) rfl (fun K hK => ?_) AllReadyH.nil
      go_simp
      refine (HADD.out _).mono ?_
      rintro e' w4 ⟨rfl, rfl⟩
      go_wp2_with fail
      refine hK.out _ _ (hS1) (fun hHeld => ?_)
      clear hK K
      try simp only [Act.put, List.setIfInBounds_toArray, List.set_cons_zero, List.set_cons_succ]
      refine wpAnyH_take (i := 15) (oi := { dst := some 73, op := Go.Op.indexAddr 56 (Go.Operand.tmp 61) (Go.Operand.tmp 62), type := 0, pos := "ref.go:59", after := #[{ on := 3, ground := Go.Ground.data }, { on := 4, ground := Go.Ground.data }, { on := 0, ground := Go.Ground.phase }, { on := 1, ground := Go.Ground.phase }, { on := 2, ground := Go.Ground.phase }, { on := 3, ground := Go.Ground.phase }, { on := 4, ground := Go.Ground.phase }, { on := 5, ground := Go.Ground.phase }, { on := 6, ground := Go.Ground.phase }, { on := 7, ground := Go.Ground.phase }, { on := 8, ground := Go.Ground.phase }, { on := 9, ground := Go.Ground.phase }, { on := 10, ground := Go.Ground.phase }, { on := 11, ground := Go.Ground.phase }, { on := 12, ground := Go.Ground.phase }, { on := 13, ground := Go.Ground.phase }, { on := 14, ground := Go.Ground.phase }], guard := none }) (v := ?_) rfl (by kernel_rfl) (by kernel_rfl) (by kernel_rfl) (fun _ _ _ h => h) (Or.inl ⟨by rfl, ?_⟩) (by assumption) ?_
      rotate_left
      · intro w9 hSw
        try dsimp only at hSw
        go_simp
        try with_reducible rfl
      try simp only [Act.put, List.setIfInBounds_toArray, List.set_cons_zero, List.set_cons_succ]
      refine wpAnyH_take (i := 16) (oi := { dst := some 74, op := Go.Op.fieldAddr 61 (Go.Operand.tmp 73) 1, type := 0, pos := "ref.go:59", after := #[{ on := 15, ground := Go.Ground.data }, { on := 0, ground := Go.Ground.phase }, { on := 1, ground := Go.Ground.phase }, { on := 2, ground := Go.Ground.phase }, { on := 3, ground := Go.Ground.phase }, { on := 4, ground := Go.Ground.phase }, { on := 5, ground := Go.Ground.phase }, { on := 6, ground := Go.Ground.phase }, { on := 7, ground := Go.Ground.phase }, { on := 8, ground := Go.Ground.phase }, { on := 9, ground := Go.Ground.phase }, { on := 10, ground := Go.Ground.phase }, { on := 11, ground := Go.Ground.phase }, { on := 12, ground := Go.Ground.phase }, { on := 13, ground := Go.Ground.phase }, { on := 14, ground := Go.Ground.phase }], guard := none }) (v := ?_) rfl (by kernel_rfl) (by kernel_rfl) (by kernel_rfl) (fun _ _ _ h => h) (Or.inl ⟨by rfl, ?_⟩) (by assumption) ?_
      rotate_left
      · intro w9 hSw
        try dsimp only at hSw
        go_simp
        try with_reducible rfl
      try simp only [Act.put, List.setIfInBounds_toArray, List.set_cons_zero, List.set_cons_succ]
      refine wpAnyH_ready (rs := [17]) (by kernel_rfl) (by simp) ?_
      refine AllReadyH.cons (o := { dst := none, op := Go.Op.store 5 (Go.Operand.tmp 74) (Go.Operand.tmp 72), type := 0, pos := "ref.go:59", after := #[{ on := 16, ground := Go.Ground.data }, { on := 14, ground := Go.Ground.data }, { on := 14, ground := Go.Ground.chain }, { on := 0, ground := Go.Ground.phase }, { on := 1, ground := Go.Ground.phase }, { on := 2, ground := Go.Ground.phase }, { on := 3, ground := Go.Ground.phase }, { on := 4, ground := Go.Ground.phase }, { on := 5, ground := Go.Ground.phase }, { on := 6, ground := Go.Ground.phase }, { on := 7, ground := Go.Ground.phase }, { on := 8, ground := Go.Ground.phase }, { on := 9, ground := Go.Ground.phase }, { on := 10, ground := Go.Ground.phase }, { on := 11, ground := Go.Ground.phase }, { on := 12, ground := Go.Ground.phase }, { on := 13, ground := Go.Ground.phase }, { on := 14, ground := Go.Ground.phase }], guard := none }) rfl (fun K hK => ?_) AllReadyH.nil
      clear hHeld
      go_simp
      refine hK.out _ _ ((HK2 _).out) (fun hHeld => ?_)
      clear hK K
      try simp only [Act.put, List.setIfInBounds_toArray, List.set_cons_zero, List.set_cons_succ]
      refine wpAnyH_done (by kernel_rfl) ?_ _
      clear hHeld
      have HR2 := HR
      clear hS1 hby fby
      go_wp2_with fail
      go_ret
      exact ⟨rfl, _, HR2.out⟩
theorem rnote_of {w : World} {q n : Nat} {v : Value} {L : List (Int × Nat)} (z : RQ w q n v L) (i r : Int) :
    Calls Try.prog 12 #[.pointer (some ⟨q, 0, none⟩), .int .i64 i, .int .i64 r] w fun e w' => e = .returned (.int .i64 (errT n L i r : Nat)) ∧ ∃ v', RQ w' q n v' (noteT n L i r) ∧ Below q w w' ∧ Mod (FR q v) w w' := by
  by_cases ha : ¬ (1 ≤ i ∧ i ≤ 1099511627776) ∨ r < 0 ∨ (n : Int) ≤ r
  · rw [argT_no ha L, noteT_no (by rw [argT_no ha L]; decide)]
    exact (rnote_arg z i r ha).mono fun _ _ ⟨h1, h2⟩ => ⟨h1, v, by rw [← h2]; exact z, by rw [← h2]; exact Below.refl _ _, by rw [← h2]; exact Mod.refl _ _⟩
  · exact rnote_in z i r (by omega) (by omega) (by omega)
end Go.Proofs.Ytmnldkfkcfnkdaa
