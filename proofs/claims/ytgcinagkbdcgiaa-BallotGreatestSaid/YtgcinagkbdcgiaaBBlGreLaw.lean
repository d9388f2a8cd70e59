/-
  The walk of BallotGreatest: the greatest of ballots is one of them, and none of them is behind it; it hangs neither on their order nor on how often each stands there.
-/
import Derived.Test.YtgcinagkbdcgiaaB00
import Derived.Test.YtgcinagkbdcgiaaB03
import Derived.Deep.DeepCutAuto
import Derived.Deep.RegionHeld
namespace Go.Proofs.Ytgcinagkbdcgiaa
open Go Go.RowKit
def twB (l : List Bal) (p n i : Nat) : List Bal := (List.range i).flatMap fun j => [l.getD ((p + j) % n) ⟨0, 0⟩, l.getD j ⟨0, 0⟩]
theorem twB_succ (l : List Bal) (p n i : Nat) : twB l p n (i + 1) = twB l p n i ++ [l.getD ((p + i) % n) ⟨0, 0⟩, l.getD i ⟨0, 0⟩] := by
  unfold twB
  rw [List.range_succ, List.flatMap_append]
  rfl
theorem twB_len (l : List Bal) (p n : Nat) : ∀ i, (twB l p n i).length = 2 * i
  | 0 => rfl
  | i + 1 => by rw [twB_succ, List.length_append, twB_len l p n i]; rfl
theorem twB_mem {l : List Bal} {p n : Nat} (hn : l.length = n) (h0 : 0 < n) (x : Bal) : x ∈ l ↔ x ∈ twB l p n n := by
  have hget : ∀ j, j < n → l.getD j ⟨0, 0⟩ ∈ l := fun j hj => by
    rw [List.getD_eq_getElem?_getD, List.getElem?_eq_getElem (by omega), Option.getD_some]
    exact List.getElem_mem _
  unfold twB
  rw [List.mem_flatMap]
  constructor
  · intro hx
    obtain ⟨j, hj⟩ := List.getElem?_of_mem hx
    have hjl := (List.getElem?_eq_some_iff.1 hj).1
    refine ⟨j, List.mem_range.2 (by omega), ?_⟩
    rw [List.getD_eq_getElem?_getD (l := l) (i := j), hj]
    simp
  · rintro ⟨j, hj, hx⟩
    have hj := List.mem_range.1 hj
    simp only [List.mem_cons, List.not_mem_nil, or_false] at hx
    rcases hx with rfl | rfl
    · exact hget _ (Nat.mod_lt _ h0)
    · exact hget _ hj
theorem wrap_modB (z : Int) (N : Nat) (h0 : 0 < N) (hN : N ≤ 1000) : ∃ q : Nat, q < N ∧ wrap64 ((IntKind.u64.wrap z).tmod (N : Int)) = (q : Int) := by
  have h1 : 0 ≤ IntKind.u64.wrap z := by rw [IntKind.wrap_u64]; omega
  have h2 := Int.emod_nonneg (IntKind.u64.wrap z) (show (N : Int) ≠ 0 by omega)
  have h3 := Int.emod_lt_of_pos (IntKind.u64.wrap z) (show (0 : Int) < N by omega)
  refine ⟨((IntKind.u64.wrap z) % N).toNat, by omega, ?_⟩
  rw [Int.tmod_eq_emod_of_nonneg h1, IntWalk.wrap64_in _ (by omega)]
  omega
theorem own_ls_ext {w w' : World} {b e n : Nat} {v : Value} {xs : List Value} (h : w.ownsRow b e 2 v n xs) (hx : Ext w w') : w'.ownsRow b e 2 v n xs := own_mod h (Mod.of_ext (F := fun _ => False) hx) fun _ _ hf => hf
abbrev S2B' (w : World) (g a : Nat) (x y : Int) (b : Nat) (x1 y1 : Int) : Prop := w.cell? ⟨g, a, none⟩ = some (.int .i64 x) ∧ w.cell? ⟨g, a + 1, none⟩ = some (.int .i64 y) ∧ w.cell? ⟨g, b, none⟩ = some (.int .i64 x1) ∧ w.cell? ⟨g, b + 1, none⟩ = some (.int .i64 y1)
theorem S2B'.ext {w w' : World} {g a b : Nat} {x y x1 y1 : Int} (hx : Ext w w') (h : S2B' w g a x y b x1 y1) : S2B' w' g a x y b x1 y1 := ⟨ext_of_cellB hx h.1, ext_of_cellB hx h.2.1, ext_of_cellB hx h.2.2.1, ext_of_cellB hx h.2.2.2⟩
abbrev S2X (w : World) (a : Nat) (x y : Int) (g b : Nat) (x1 y1 : Int) : Prop := w.cell? ⟨a, 0, none⟩ = some (.int .i64 x) ∧ w.cell? ⟨a, 1, none⟩ = some (.int .i64 y) ∧ w.cell? ⟨g, b, none⟩ = some (.int .i64 x1) ∧ w.cell? ⟨g, b + 1, none⟩ = some (.int .i64 y1)
theorem S2X.ext {w w' : World} {a g b : Nat} {x y x1 y1 : Int} (hx : Ext w w') (h : S2X w a x y g b x1 y1) : S2X w' a x y g b x1 y1 := ⟨ext_of_cellB hx h.1, ext_of_cellB hx h.2.1, ext_of_cellB hx h.2.2.1, ext_of_cellB hx h.2.2.2⟩
set_option maxRecDepth 100000 in
set_option maxHeartbeats 3200000 in
theorem ballotGreatest_law (A : Option Addr) (n c : Nat) (l : List Bal) (fr : Int) (w : World) (h : Ls Bal.cells 2 w w.heap.size A n c l ∧ ∀ a ∈ l, True) (_ : (Lit.int .i64 fr).wf = true) :
    Calls Try.prog 7 #[.slice A n c, .int .i64 fr] w fun e w' => e = .returned (.bool true) ∧ Below w.heap.size w w' := by
  show Calls Try.prog 7 #[.slice A n c, .int .i64 fr] w fun e w' => e = .returned (.bool true) ∧ Ext w w'
  obtain ⟨i0, hi, hz0, hz1, hz2⟩ := info_parts ballot_info
  have hcap := h.1.cap
  have hmost := h.1.most
  have H := Lib.hid h.1
  have HLN := Lib.hid h.1.len
  have hg := ballot_guard
  clear h
  by_cases hout : n = 0 ∨ 200 < n
  · have hq0 := bal_eql 0 0 0 0
    rw [decide_eq_true (p := (0 : Int) = 0 ∧ (0 : Int) = 0) ⟨rfl, rfl⟩] at hq0
    have hcase : ((n : Int) == 0) = true ∨ (((n : Int) == 0) = false ∧ 200 < n) := by
      by_cases h0 : n = 0
      · exact .inl (by simpa using h0)
      · exact .inr ⟨by simpa using h0, by omega⟩
    clear hout
    rcases hcase with e0 | ⟨e0, h200⟩
    all_goals
      go_enter Try.func7, Try.ntmps7
      go_wp2_with fail
      refine (bawake_any _).mono ?_
      rintro e w1 ⟨rfl, hx⟩
      have HX := Lib.hid hx
      clear hx
      go_wp2_with fail
      refine (max0_lit _).mono ?_
      rintro e w2 ⟨rfl, hx⟩
      have HX := Lib.hid (HX.out.trans hx)
      clear hx
      go_wp2_with fail
      go_ret
      exact ⟨rfl, HX.out⟩
  have hn0 : 0 < n := by omega
  have hn200 : n ≤ 200 := by omega
  have e0 : ((n : Int) == 0) = false := by simp; omega
  clear hout
  obtain ⟨p, hp, hpe⟩ := wrap_modB fr n hn0 (by omega)
  have hlne : l ≠ [] := fun e => by have := HLN.out; rw [e] at this; simp at this; omega
  have HMEM := Lib.hid (maxB_mem hlne)
  have HGE := Lib.hid (fun x (hx : x ∈ l) => maxB_ge hx)
  have HTM := Lib.hid (maxB_same (k := twB l p n n) hlne (twB_mem HLN.out hn0))
  clear hlne
  go_enter Try.func7, Try.ntmps7
  go_wp2_with fail
  refine (bawake_any _).mono ?_
  rintro e w1 ⟨rfl, hx⟩
  have HX1 := Lib.hid hx
  have HLM := Lib.hid ((H.out.below hx).moreB hx.size)
  clear hx
  go_upto_region 6 with (fail)
  rw [hpe]
  clear hpe
  go_wp2_with fail
  refine (maxB_of A n c l w1 HLM.out).mono ?_
  rintro e w2 ⟨rfl, hx⟩
  obtain ⟨⟨mx, my⟩, hmm⟩ : ∃ m, maxB l = m := ⟨_, rfl⟩
  rw [hmm] at HMEM HGE HTM ⊢
  have HMM := Lib.hid hmm
  clear hmm
  have HX3 := Lib.hid (HX1.out.trans (hx.alloc (.cells #[.int .i64 mx, .int .i64 my] 50)))
  have HM3 := Lib.hid (BC.new w2 mx my 50)
  have HL3 := Lib.hid ((HLM.out.below (hx.alloc (.cells #[.int .i64 mx, .int .i64 my] 50))).moreB (hx.alloc (.cells #[.int .i64 mx, .int .i64 my] 50)).size)
  clear hx
  go_upto_region 8 with (fail)
  generalize (w2.alloc (Obj.cells #[Value.int .i64 mx, Value.int .i64 my] 50)) = W at *
  generalize w2.heap.size = b6 at *
  obtain ⟨base, hbase⟩ : ∃ base, W.heap.size = base := ⟨_, rfl⟩
  have HBASE := Lib.hid hbase
  have HTW0 : Hid (W.ownsRow base 50 2 (.slice none 0 0) (2 * 0) ((twB l p n 0).flatMap Bal.cells)) := Lib.hid (World.ownsRow_nil _ _ _ _)
  clear hbase
  go_wp2_with fail
  go_loopw [5, 7, 8] (fun t s k wr => ∃ (i : Nat) (v : Bool), i ≤ n ∧ k = .int .i64 (i : Int) ∧ s = .bool v ∧ Hid (v = true ↔ ∃ j, j < i ∧ l[j]? = some ⟨mx, my⟩) ∧ Hid (wr.ownsRow base 50 2 t (2 * i) ((twB l p n i).flatMap Bal.cells)) ∧ Hid (Ext W wr)) (fun _ _ k _ => n - (intOf k).toNat)
  case atStart => exact ⟨0, false, Nat.zero_le _, rfl, rfl, Lib.hid ⟨fun h => (by cases h), fun ⟨j, hj, _⟩ => absurd hj (Nat.not_lt_zero _)⟩, HTW0, Lib.hid (Ext.refl _)⟩
  case round =>
    obtain ⟨i, v, hi', rfl, rfl, HV, HTW, HX⟩ := hrel
    by_cases hlt : i < n
    · obtain ⟨g, o, b, rfl, hb, p0W, p1W⟩ := Ls.bal HL3.out hlt
      obtain ⟨x, y⟩ := b
      dsimp only at p0W p1W
      have p0 := ext_of_cellB HX.out p0W
      have p1 := ext_of_cellB HX.out p1W
      have HBI := Lib.hid hb
      obtain ⟨r, hr⟩ : ∃ r, (p + i) % n = r := ⟨_, rfl⟩
      have hrn : r < n := by rw [← hr]; exact Nat.mod_lt _ hn0
      obtain ⟨c0, c1⟩ := BC.ext HX.out HM3.out
      have hq := bal_eql x y mx my
      obtain ⟨qv, hqv⟩ : ∃ q, decide (x = mx ∧ y = my) = q := ⟨_, rfl⟩
      rw [hqv] at hq
      have HQV := Lib.hid hqv
      have HRR := Lib.hid hr
      have HLS := Lib.hid (fun V => less_lit mx my x y false (HGE.out _ (List.mem_of_getElem? hb)) V)
      clear hb hqv hr
      have HV1 : Hid ((v || qv) = true ↔ ∃ j, j < i + 1 ∧ l[j]? = some ⟨mx, my⟩) := Lib.hid (by
        rw [Bool.or_eq_true, HV.out, ← HQV.out, decide_eq_true_iff]
        constructor
        · rintro (⟨j, hj, e⟩ | ⟨rfl, rfl⟩)
          · exact ⟨j, by omega, e⟩
          · exact ⟨i, by omega, HBI.out⟩
        · rintro ⟨j, hj, e⟩
          by_cases hji : j = i
          · subst hji
            rw [HBI.out] at e
            injection e with e
            injection e with e1 e2
            exact .inr ⟨e1, e2⟩
          · exact .inl ⟨j, by omega, e⟩)
      have hcut : ∃ v', Hid (v' = true ↔ ∃ j, j < i + 1 ∧ l[j]? = some ⟨mx, my⟩) ∧ v' = (v || qv) := ⟨_, HV1, rfl⟩
      obtain ⟨g', o', br, eA, hbr, r0W, r1W⟩ := Ls.bal HL3.out hrn
      injection eA with eA
      injection eA with eA1 eA2
      subst eA1 eA2
      obtain ⟨rx, ry⟩ := br
      dsimp only at r0W r1W
      have HBR := Lib.hid hbr
      have HSV : Hid (∀ V, Ext W V → S2B' V g (o + r * 2) rx ry (o + i * 2) x y) := Lib.hid (fun V hV => ⟨ext_of_cellB hV r0W, ext_of_cellB hV r1W, ext_of_cellB hV p0W, ext_of_cellB hV p1W⟩)
      have HM4 : Hid (∀ V, Ext W V → S2X V b6 mx my g (o + i * 2) x y) := Lib.hid (fun V hV => ⟨ext_of_cellB hV HM3.out.1, ext_of_cellB hV HM3.out.2, ext_of_cellB hV p0W, ext_of_cellB hV p1W⟩)
      have hremI : (IntKind.i64.wrap ((p : Int) + (i : Int))).tmod (n : Int) = (r : Int) := by
        have hw : IntKind.i64.wrap ((p : Int) + (i : Int)) = (p : Int) + (i : Int) := by rw [IntKind.wrap_i64]; omega
        rw [hw, Int.tmod_eq_emod_of_nonneg (by omega), ← HRR.out]
        simp
      have hTn : twB l p n (i + 1) = twB l p n i ++ [⟨rx, ry⟩, ⟨x, y⟩] := by
        rw [twB_succ, HRR.out, List.getD_eq_getElem?_getD, HBR.out, List.getD_eq_getElem?_getD, HBI.out]
        rfl
      have HTN := Lib.hid hTn
      have HRI := Lib.hid hremI
      clear p0W p1W hbr r0W r1W hcut hTn hremI
      cases v
      all_goals
        go_wp2_with fail
        go_region
        clear p0 p1 c0 c1 hq
        have HXd := Lib.hid HX.out.drew
        have hs12 := HM4.out _ HXd.out
        go_wp2_with fail
        go_region_held3 (fun w' => S2X w' b6 mx my g (o + i * 2) x y)
          (first | with_reducible exact hs12 | assumption | go_keep)
          (first | (go_at_call 25; ((with_reducible refine (HLS.out _).mono ?_); rintro e w5 ⟨rfl, hx5⟩; have hs5 := S2X.ext hx5 (by first | exact hs12 | assumption))))
        have HX5 := Lib.hid (HXd.out.trans ((Ext.refl _).drew.trans hx5))
        have HTW5 := Lib.hid (own_ls_ext (own_ls_ext HTW.out (Ext.refl wr).drew) ((Ext.refl _).drew.trans hx5))
        have hremI := HRI.out
        clear hs12 hs5 hx5 HTW
        go_upto_region 14 with (fail)
        refine wp_region_held_drew (S := fun w' => S2B' w' g (o + r * 2) rx ry (o + i * 2) x y) (by kernel_rfl) (HSV.out _ HX5.out.drew) (fun hHeld => ?_)
        refine tj (i := 0) (oi := ⟨some 52, .move (.tmp 5), 51, "outright.go:55", #[], none⟩) rfl (by kernel_rfl) ?_
        try simp only [Act.put, sT, s0, s1]
        refine tj (i := 1) (oi := ⟨some 53, .move (.tmp 0), 51, "outright.go:55", #[], none⟩) rfl (by kernel_rfl) ?_
        try simp only [Act.put, sT, s0, s1]
        refine tj (i := 2) (oi := ⟨some 54, .move (.tmp 1), 3, "outright.go:55", #[], none⟩) rfl (by kernel_rfl) ?_
        try simp only [Act.put, sT, s0, s1]
        refine tj (i := 3) (oi := ⟨some 55, .move (.tmp 8), 3, "outright.go:55", #[], none⟩) rfl (by kernel_rfl) ?_
        try simp only [Act.put, sT, s0, s1]
        refine tj (i := 4) (oi := ⟨some 56, .binOp .add 3 (.tmp 54) (.tmp 55) 3, 3, "outright.go:55", #[⟨2, .data⟩, ⟨3, .data⟩], none⟩) rfl (by kernel_rfl) ?_
        try simp only [Act.put, sT, s0, s1]
        refine tj (i := 5) (oi := ⟨some 57, .move (.tmp 0), 51, "outright.go:55", #[], none⟩) rfl (by kernel_rfl) ?_
        try simp only [Act.put, sT, s0, s1]
        refine tj (i := 6) (oi := ⟨some 58, .call { callee := .builtin Go.Builtin.len, args := #[.tmp 57], argTypes := #[51] }, 3, "outright.go:55", #[⟨5, .data⟩], none⟩) rfl (by kernel_rfl) ?_
        try simp only [Act.put, sT, s0, s1]
        refine tk (i := 7) (oi := ⟨some 59, .binOp .rem 3 (.tmp 56) (.tmp 58) 3, 3, "outright.go:55", #[⟨4, .data⟩, ⟨6, .data⟩], none⟩) (v := .int .i64 (r : Int)) rfl (by kernel_rfl) (Or.inl ⟨by rfl, ?_⟩) ?_
        · intro w9 hSw
          try dsimp only at hSw
          go_simp
          omega
        try simp only [Act.put, sT, s0, s1]
        refine tj (i := 8) (oi := ⟨some 60, .indexAddr 51 (.tmp 53) (.tmp 59), 0, "outright.go:55", #[⟨1, .data⟩, ⟨7, .data⟩], none⟩) rfl (by kernel_rfl) ?_
        try simp only [Act.put, sT, s0, s1]
        refine tj (i := 9) (oi := ⟨some 61, .load 50 (.tmp 60), 50, "outright.go:55", #[⟨8, .data⟩], none⟩) rfl (by kernel_rfl) ?_
        try simp only [Act.put, sT, s0, s1]
        refine tj (i := 10) (oi := ⟨some 62, .move (.tmp 0), 51, "outright.go:55", #[], none⟩) rfl (by kernel_rfl) ?_
        try simp only [Act.put, sT, s0, s1]
        refine tj (i := 11) (oi := ⟨some 63, .move (.tmp 8), 3, "outright.go:55", #[], none⟩) rfl (by kernel_rfl) ?_
        try simp only [Act.put, sT, s0, s1]
        refine tj (i := 12) (oi := ⟨some 64, .indexAddr 51 (.tmp 62) (.tmp 63), 0, "outright.go:55", #[⟨10, .data⟩, ⟨11, .data⟩], none⟩) rfl (by kernel_rfl) ?_
        try simp only [Act.put, sT, s0, s1]
        refine tj (i := 13) (oi := ⟨some 65, .load 50 (.tmp 64), 50, "outright.go:55", #[⟨12, .data⟩], none⟩) rfl (by kernel_rfl) ?_
        try simp only [Act.put, sT, s0, s1]
        refine wpAnyH_ready (rs := [14]) (by kernel_rfl) (by simp) ?_
        refine AllReadyH.cons (o := ⟨some 66, .buildSlice 51 2 #[(0, .tmp 61), (1, .tmp 65)], 51, "outright.go:55", #[⟨9, .data⟩, ⟨13, .data⟩], none⟩) rfl (fun K hK => ?_) AllReadyH.nil
        clear hHeld
        go_simp
        have HR6 := Lib.hid (heap_alloc_new w5.drew (.cells #[.int .i64 rx, .int .i64 ry, .int .i64 x, .int .i64 y] 50))
        have HX6 := Lib.hid (HX5.out.drew.alloc (.cells #[.int .i64 rx, .int .i64 ry, .int .i64 x, .int .i64 y] 50))
        have HT6 := Lib.hid (own_ls_ext HTW5.out ((Ext.refl w5).drew.alloc (.cells #[.int .i64 rx, .int .i64 ry, .int .i64 x, .int .i64 y] 50)))
        refine hK.out _ _ (HSV.out _ HX6.out) (fun hHeld => ?_)
        clear hK K
        try simp only [Act.put, sT, s0, s1]
        refine wpAnyH_ready (rs := [15]) (by kernel_rfl) (by simp) ?_
        refine AllReadyH.cons (o := ⟨some 67, .call { callee := .builtin Go.Builtin.append, args := #[.tmp 52, .tmp 66], argTypes := #[51, 51] }, 51, "outright.go:55", #[⟨0, .data⟩, ⟨14, .data⟩], none⟩) rfl (fun K hK => ?_) AllReadyH.nil
        rw [if_pos (by rfl)]
        refine wp_append_ls (cells := Bal.cells) (N := 2) (fun _ => rfl) (by omega) Bal.one _ _ 51 rfl base 50 i0 (.agg #[.int .i64 0, .int .i64 0]) 16 Try.underlying51 hi hz0 hz1 hz2 rfl _ (2 * i) ((twB l p n i).flatMap Bal.cells) rfl HT6.out _ (some ⟨w5.drew.heap.size, 0, none⟩) 2 2 [⟨rx, ry⟩, ⟨x, y⟩] rfl (ls_rowB [⟨rx, ry⟩, ⟨x, y⟩] rfl (by simp) HR6.out) (by unfold maxLen; omega) (by omega) (by rw [← HBASE.out]; exact HX6.out.size) ?_
        intro v2 W2 ho2 hg2
        have hx2 : Ext W W2 := Below.grown HX6.out hg2 (Ext.size HX6.out) (fun q hq => by rw [HBASE.out]; exact (HT6.out.lt q hq).1)
        have HX7 := Lib.hid hx2
        have HT7 := Lib.hid ho2
        clear ho2 hg2 hx2
        refine hK.out _ _ (HSV.out _ HX7.out) (fun hHeld => ?_)
        clear hK K
        try simp only [Act.put, sT, s0, s1]
        refine tj (i := 16) (oi := ⟨some 5, .assign (.tmp 67), 51, "outright.go:55", #[⟨15, .data⟩, ⟨15, .chain⟩, ⟨0, .phase⟩, ⟨1, .phase⟩, ⟨2, .phase⟩, ⟨3, .phase⟩, ⟨4, .phase⟩, ⟨5, .phase⟩, ⟨6, .phase⟩, ⟨7, .phase⟩, ⟨8, .phase⟩, ⟨9, .phase⟩, ⟨10, .phase⟩, ⟨11, .phase⟩, ⟨12, .phase⟩, ⟨13, .phase⟩, ⟨14, .phase⟩, ⟨15, .phase⟩], none⟩) rfl (by kernel_rfl) ?_
        try simp only [Act.put, sT, s0, s1]
        refine wpAnyH_done (by kernel_rfl) ?_ _
        clear hHeld
        have HT8 : Hid (W2.ownsRow base 50 2 v2 (2 * (i + 1)) ((twB l p n (i + 1)).flatMap Bal.cells)) := Lib.hid (by
          rw [HTN.out, List.flatMap_append, show 2 * (i + 1) = 2 * i + 2 by omega]
          exact HT7.out)
        clear hremI
        go_wp2_with fail
        go_roundw
        case rel => exact ⟨i + 1, _, by omega, by go_num, rfl, by simpa using HV1, HT8, HX7⟩
        case measure => simp [intOf]; omega
    · have hin : i = n := by omega
      subst hin
      have hv : v = true := HV.out.2 (by
        obtain ⟨j, hj⟩ := List.getElem?_of_mem HMEM.out
        exact ⟨j, by have := (List.getElem?_eq_some_iff.1 hj).1; rw [HLN.out] at this; exact this, hj⟩)
      subst hv
      obtain ⟨AT, cT, rfl, hlT⟩ := Ls.of_row (cells := Bal.cells) (N := 2) (n := 2 * i) (l := twB l p i i) (fun _ => rfl) (by omega) (twB_len l p i i) HTW.out
      have hmax := fun V (hV : Ext wr V) => maxB_of AT (2 * i) cT (twB l p i i) V ((hlT.below hV).moreB hV.size)
      rw [← HTM.out] at hmax
      have HMAX := Lib.hid hmax
      have hs := BC.ext HX.out HM3.out
      have hq := bal_eql mx my mx my
      rw [decide_eq_true (p := mx = mx ∧ my = my) ⟨rfl, rfl⟩] at hq
      have HXE := Lib.hid (HX3.out.trans HX.out)
      clear hmax hlT
      go_wp2_with fail
      go_region_held3 (fun w' => BC w' b6 mx my)
        (first | with_reducible exact hs | assumption | go_keep)
        (first | (go_at_call 24; (((with_reducible refine (HMAX.out _ ?_).mono ?_); exact (Ext.refl _).drew); rintro e w6 ⟨rfl, hx6⟩; have hs6 := BC.ext hx6 (by first | exact hs | assumption))))
      have HXF := Lib.hid (HXE.out.trans ((Ext.refl _).drew.trans hx6))
      clear hs hs6 hx6
      go_wp2_with fail
      go_ret
      exact ⟨rfl, HXF.out⟩
end Go.Proofs.Ytgcinagkbdcgiaa
