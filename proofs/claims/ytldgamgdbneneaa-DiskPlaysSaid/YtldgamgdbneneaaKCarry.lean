/-
  The contract of the disk's carryOut: a write is carried out.
-/
import Derived.Test.YtldgamgdbneneaaKRest
import Derived.StillTailTactics
import Derived.Laws.Tables
namespace Go.Proofs.Ytldgamgdbneneaa
set_option maxRecDepth 100000
open Go Go.RowKit

/-- Cells stored into a known block. -/
theorem heap_setCells {g t : Nat} {fr : Nat × Nat} : ∀ (vs : List Value) (o : Nat) {w : World} {cs : Array Value}, w.heap[g]? = some (.cells cs t fr) → o + vs.length ≤ cs.size →
    ∃ cs' : Array Value, (w.setCells g o vs).heap[g]? = some (.cells cs' t fr) ∧ cs'.size = cs.size ∧ (∀ j v, vs[j]? = some v → cs'[o + j]? = some v) ∧ ∀ k, k < o ∨ o + vs.length ≤ k → cs'[k]? = cs[k]?
  | [], o, w, cs, h, _ => ⟨cs, h, rfl, fun j v hv => by simp at hv, fun _ _ => rfl⟩
  | x :: r, o, w, cs, h, hl => by
    simp only [List.length_cons] at hl
    have hrow := row_set o h x rfl
    obtain ⟨cs', h1, h2, h3, h4⟩ := heap_setCells r (o + 1) hrow (by simp; omega)
    refine ⟨cs', h1, by rw [h2]; simp, fun j v hv => ?_, fun k hk => ?_⟩
    · cases j with
      | zero =>
        simp only [List.getElem?_cons_zero, Option.some.injEq] at hv
        subst hv
        rw [Nat.add_zero, h4 o (.inl (by omega)), Array.getElem?_setIfInBounds, if_pos rfl, if_pos (by omega)]
      | succ j =>
        have := h3 j v (by simpa using hv)
        rwa [show o + (j + 1) = o + 1 + j by omega]
    · simp only [List.length_cons] at hk
      rw [h4 k (by omega), Array.getElem?_setIfInBounds]
      rw [if_neg (by omega)]
theorem mod_setCells (w : World) (g o : Nat) (vs : List Value) : Mod (fun i => i = g) w (w.setCells g o vs) := (Mod.refl _ _).setCells g o vs (.inl rfl)
/-- Sectors of which one has another range of cells. -/
theorem MedAt.set {w : World} {g : Nat} {m m' : DM} (h : MedAt w g m) {s : Nat} (hs : s < m.size) (o : Nat) (vs : List Value) (hz : m'.size = m.size) (hin : o + vs.length ≤ 129)
    (hoth : ∀ i, i < m.size → i ≠ s → m'.sec i = m.sec i) (hlen : ∀ i, i < m.size → (m'.sec i).length = 129)
    (hsec : ∀ j v, (m'.sec s)[j]? = some v → if o ≤ j ∧ j < o + vs.length then vs[j - o]? = some v else (m.sec s)[j]? = some v) : MedAt (w.setCells g (s * 129 + o) vs) g m' := by
  obtain ⟨cur, h1, h2, h3⟩ := h
  have hle : (s + 1) * 129 ≤ m.size * 129 := Nat.mul_le_mul_right _ hs
  obtain ⟨cs', c1, c2, c3, c4⟩ := heap_setCells vs (s * 129 + o) h1 (by omega)
  refine ⟨cs', c1, by rw [c2, h2, hz], fun i hi j v hv => ?_⟩
  rw [hz] at hi
  have hj : j < 129 := by rw [← hlen i hi]; exact (List.getElem?_eq_some_iff.1 hv).1
  by_cases he : i = s
  · subst he
    have hh := hsec j v hv
    split at hh
    · rename_i hr
      have := c3 (j - o) v hh
      rwa [show i * 129 + o + (j - o) = i * 129 + j by omega] at this
    · rename_i hr
      rw [c4 _ (by omega)]
      exact h3 i hi j v hh
  · rw [hoth i hi he] at hv
    have hne : i * 129 + j < s * 129 ∨ s * 129 + 129 ≤ i * 129 + j := by
      rcases Nat.lt_or_gt_of_ne he with hlt | hgt
      · left
        have : (i + 1) * 129 ≤ s * 129 := Nat.mul_le_mul_right _ hlt
        omega
      · right
        have : (s + 1) * 129 ≤ i * 129 := Nat.mul_le_mul_right _ hgt
        omega
    rw [c4 _ (by omega)]
    exact h3 i hi j v hv
theorem come_sec {m : DM} (h : m.Ok) {x : Nat × List Nat} (hx : x.1 < m.size) (i : Nat) : (m.come x).sec i = if i = x.1 then secC x.2 x.2 false else m.sec i := by
  unfold DM.sec DM.come
  by_cases e : x.1 = i
  · subst e
    rw [if_pos rfl]
    simp only
    rw [getD_set (show x.1 < m.rest.length from hx), getD_set (show x.1 < m.meant.length by rw [h.meant]; exact hx), getD_set (show x.1 < m.lost.length by rw [h.lost]; exact hx), if_pos rfl, if_pos rfl, if_pos rfl]
  · rw [if_neg (fun h => e h.symm)]
    simp only
    rw [getD_set_ne e, getD_set_ne e, getD_set_ne e]
theorem PD.come {w : World} {d g : Nat} {pv : Value} {m : DM} (h : PD w d g pv m) {x : Nat × List Nat} (hx2 : Sect x.2) {w' : World} (hm : Mod (fun i => i = g) w w') (hmed : MedAt w' g (m.come x)) : PD w' d g pv (m.come x) := by
  have hz := DM.come_size m x
  refine ⟨DM.come_ok h.ok hx2, by rw [hz]; exact h.n1, h.top, ?_, hmed, ?_, h.dg, h.pd⟩
  · rw [hz]
    exact heap_mod h.head hm h.dg
  · exact own_mod h.pen hm fun i hi => (h.pd i hi).2

/-- What a medium built of contents is. -/
theorem fold_set : ∀ (cs : List Value) (k : Nat) (o : Nat) (A : Array Value), (cs.zipIdx k).foldl (fun a (p : Value × Nat) => a.setIfInBounds (o + p.2) p.1) A = (cs.zipIdx (o + k)).foldl (fun a (p : Value × Nat) => a.setIfInBounds p.2 p.1) A
  | [], _, _, _ => rfl
  | c :: cs, k, o, A => by
    simp only [List.zipIdx_cons, List.foldl_cons]
    rw [fold_set cs (k + 1) o _]
    rfl
theorem fold_put : ∀ (cs pre mid post : List Value), mid.length = cs.length → (cs.zipIdx pre.length).foldl (fun (a : Array Value) (p : Value × Nat) => a.setIfInBounds p.2 p.1) (pre ++ (mid ++ post)).toArray = (pre ++ (cs ++ post)).toArray
  | [], pre, mid, post, h => by
    obtain rfl := List.eq_nil_of_length_eq_zero (by simpa using h)
    rfl
  | c :: cs, pre, [], post, h => by simp at h
  | c :: cs, pre, x :: mid, post, h => by
    simp only [List.zipIdx_cons, List.foldl_cons]
    have e : (pre ++ (x :: mid ++ post)).toArray.setIfInBounds pre.length c = ((pre ++ [c]) ++ (mid ++ post)).toArray := by
      simp
    rw [e]
    have := fold_put cs (pre ++ [c]) mid post (by simpa using h)
    rw [show (pre ++ [c]).length = pre.length + 1 by simp] at this
    rw [this]
    simp
theorem fill_one (place : Nat → Option (Nat × Nat)) (i : Nat) (cs pre mid post : List Value) (n : Nat) (hp : place i = some (pre.length, n)) (hn : cs.length = n) (hm : mid.length = n) (rest : List (Nat × Value)) :
    Instr.fill place (pre ++ (mid ++ post)).toArray ((i, .agg cs.toArray) :: rest) = Instr.fill place (pre ++ (cs ++ post)).toArray rest := by
  rw [Instr.fill]
  simp only [hp]
  have e1 : (Value.agg cs.toArray).cells = cs.toArray := rfl
  rw [e1]
  rw [if_neg (by simp; omega)]
  congr 1
  have := fold_put cs pre mid post (by omega)
  rw [← this]
  have h2 := fold_set cs 0 pre.length (pre ++ (mid ++ post)).toArray
  rw [Nat.add_zero] at h2
  rw [← h2]
  simp
theorem med_built (a b : List Nat) (ha : a.length = 64) (hb : b.length = 64) : Try.prog.built 76 [(0, .agg (vb a).toArray), (1, .agg (vb b).toArray)] = some (secC a b false).toArray := by
  have key : ∃ places, Try.prog.built 76 [(0, .agg (vb a).toArray), (1, .agg (vb b).toArray)] = Instr.fill (fun i => (places : Array (Nat × Nat))[i]?) zMed [(0, .agg (vb a).toArray), (1, .agg (vb b).toArray)] ∧ places[0]? = some (0, 64) ∧ places[1]? = some (64, 64) := by
    refine ⟨#[(0, 64), (64, 64), (128, 1)], ?_, rfl, rfl⟩
    kernel_rfl
  obtain ⟨places, h1, h2, h3⟩ := key
  rw [h1]
  have z0 : zMed = ([] ++ (vb z64 ++ (vb z64 ++ [Value.bool false]))).toArray := rfl
  rw [z0, fill_one _ 0 (vb a) [] (vb z64) (vb z64 ++ [Value.bool false]) 64 h2 (by rw [vb_length, ha]) (by simp [vb_length, z64])]
  rw [List.nil_append]
  rw [fill_one _ 1 (vb b) (vb a) (vb z64) [Value.bool false] 64 (by rw [vb_length, ha]; exact h3) (by rw [vb_length, hb]) (by simp [vb_length, z64])]
  rfl

theorem still_load {ops : Array Oper} {o : Oper} {a : Act} {w : World} {K : Act → Prop} (ty : TypeId) (x : Operand) (ho : o.op = .load ty x) (b p : Nat) (hx : a.eval x = .pointer (some ⟨b, p, none⟩)) (cs : List Value) (d : TypeDesc) (hc : w.rangeAt b p cs)
    (hu : Try.prog.underlying ty = some d) (hd : d.isRow = true) (hi : (Try.prog.info? ty).map (·.size) = some cs.length) (hw : Region.wanted o (yielded ops a.tmps) = true) (h : K (a.put o.dst (.agg cs.toArray))) :
    if Region.wanted o (yielded ops a.tmps) then o.still Try.prog a w K else K (a.put o.dst undef) := by
  rw [if_pos hw]
  unfold Oper.still execOp
  simp only [ho, hx, Instr.loadAt, Instr.sureAddr, Sem.run_bind, Sem.run_pure, Result.andThen_ok, run_loadVar_mid w b p ty cs d hc hu hd hi, Oper.stillUpon_value]
  exact h
theorem still_build {ops : Array Oper} {o : Oper} {a : Act} {w : World} {K : Act → Prop} (t : TypeId) (parts : Array (Nat × Operand)) (ho : o.op = .build t parts) (cells : Array Value) (hb : Try.prog.built t (parts.map fun (i, x) => (i, a.eval x)).toList = some cells)
    (hw : Region.wanted o (yielded ops a.tmps) = true) (h : K (a.put o.dst (.agg cells))) : if Region.wanted o (yielded ops a.tmps) then o.still Try.prog a w K else K (a.put o.dst undef) := by
  rw [if_pos hw]
  unfold Oper.still execOp
  simp only [ho, Sem.run_bind, run_build w t _ cells hb, Result.andThen_ok, Sem.run_pure, Oper.stillUpon_value]
  exact h
theorem still_tail {id : Nat} {Q : Exit → Act → World → Prop} {a : Act} {w : World} {l : List Oper} (n : Nat) (hm : Try.prog.follows .mixedOrders = true) (hB : Region.lexTailB .any l.toArray n = true)
    (h : wpStill Try.prog l.toArray w.drew (fun a' => wpList Try.prog l.toArray Q (l.drop n) a' w.drew) (l.take n) a) : (Code.region id l.toArray true).wp Try.prog Q a w := wp_region_still_tail n hm hB h
theorem wri_cut (x : Nat × List Nat) : wriC x = vb x.2 ++ [.int .i64 (x.1 : Int)] := rfl
theorem wri_64 {x : Nat × List Nat} (h : x.2.length = 64) : (wriC x)[64]? = some (.int .i64 (x.1 : Int)) := by
  rw [wri_cut, List.getElem?_append_right (by rw [vb_length]; omega), vb_length, h]
  rfl
theorem there_of {w : World} {g t : Nat} {cs : Array Value} (h : w.heap[g]? = some (.cells cs t (0, 0))) (o n : Nat) (hn : o + n ≤ cs.size) : w.there g o n := fun j hj => by
  refine ⟨?_, frozen_of_row w g _ _ _ h⟩
  rw [cell_of_row w g (o + j) cs t (0, 0) h, Array.getElem?_eq_getElem (by omega)]
  rfl

set_option maxRecDepth 100000 in
set_option maxHeartbeats 1600000 in
theorem carry_of {w : World} {d g : Nat} {pv : Value} {m : DM} (h : PD w d g pv m) (x : Nat × List Nat) (hx : x.1 < m.size) (hx2 : Sect x.2) :
    Calls Try.prog 39 #[.pointer (some ⟨d, 0, none⟩), .agg (wriC x).toArray] w fun e w' => (∃ v, e = .returned v) ∧ PD w' d g pv (m.come x) ∧ Mod (fun i => i = g) w w' := by
  have H := Lib.hid h
  have hE := ((Ext.refl w).alloc (.cells (wriC x).toArray 72)).drew
  have H2 := Lib.hid (h.ext hE)
  obtain ⟨⟨c0, c1, c2, c3, c4⟩, f0, f1, f2, f3, f4⟩ := (h.ext hE).cells
  have hb64 : (w.alloc (.cells (wriC x).toArray 72)).drew.cell? ⟨w.heap.size, 64, none⟩ = some (.int .i64 (x.1 : Int)) := by
    rw [show (w.alloc (.cells (wriC x).toArray 72)).drew.cell? ⟨w.heap.size, 64, none⟩ = (w.alloc (.cells (wriC x).toArray 72)).cell? ⟨w.heap.size, 64, none⟩ from rfl, World.cell?_alloc_new, List.getElem?_toArray, wri_64 hx2.1]
  have HR : Hid ((w.alloc (.cells (wriC x).toArray 72)).drew.rangeAt w.heap.size 0 (vb x.2)) := Lib.hid (range_new w _ _ [] _ _ (wri_cut x) 0 rfl)
  have HX := Lib.hid hx2
  have HB := Lib.hid (med_built x.2 x.2 hx2.1 hx2.1)
  have HE := Lib.hid hE
  have hlt : (x.1 : Int) < (m.size : Nat) := by omega
  have hge : (0 : Int) ≤ (x.1 : Int) := by omega
  clear h hE hx2 f0 f1 f2 f3 f4 c0 c1 c2 c4
  go_enter Try.func39, Try.ntmps39
  go_wp2_with fail
  refine still_tail 12 (by kernel_rfl) (by kernel_rfl) ?_
  simp only [List.take_succ_cons, List.take_zero, List.drop_succ_cons, List.drop_zero]
  generalize (w.alloc (.cells (wriC x).toArray 72)).drew = w2 at *
  still_step
  still_step
  still_step
  still_step
  still_step
  still_step
  still_step
  refine wpStill_step (fun K hK => ?_)
  refine still_load 70 _ rfl w.heap.size 0 rfl (vb x.2) _ HR.out Try.underlying70 rfl (by rw [sz_con, vb_length, HX.out.1]) (by rfl) (hK _ ?_)
  clear hK K
  still_step
  refine wpStill_step (fun K hK => ?_)
  refine still_load 70 _ rfl w.heap.size 0 rfl (vb x.2) _ HR.out Try.underlying70 rfl (by rw [sz_con, vb_length, HX.out.1]) (by rfl) (hK _ ?_)
  clear hK K
  refine wpStill_step (fun K hK => ?_)
  refine still_build 76 _ rfl (secC x.2 x.2 false).toArray (by simpa [Act.eval, Act.put] using HB.out) (by rfl) (hK _ ?_)
  clear hK K
  still_step
  refine wpStill_nil ?_
  obtain ⟨cur, hg, hsz, hcur⟩ := H2.out.med
  have hle : (x.1 + 1) * 129 ≤ m.size * 129 := Nat.mul_le_mul_right _ hx
  have hlen : (secC x.2 x.2 false).length = 129 := secC_len HX.out.1 HX.out.1
  have HTH : Hid (w2.there g (x.1 * 129) (secC x.2 x.2 false).toArray.size) := Lib.hid (there_of hg _ _ (by rw [List.size_toArray, hlen, hsz]; omega))
  have HSZ : Hid ((Try.prog.info? 76).map (·.size) = some (secC x.2 x.2 false).toArray.size) := Lib.hid (by rw [sz_med, List.size_toArray, hlen])
  clear hcur hg hsz hle hlen c3 hb64
  go_wp2_with (refine wpList_store_mid rfl 76 _ _ rfl g (x.1 * 129) (secC x.2 x.2 false).toArray rfl rfl HTH.out HSZ.out (all_oneCell_toArray (secC_one _ _ _)) ?_)
  go_end0
  have hm : Mod (fun i => i = g) w (w2.setCells g (x.1 * 129) (secC x.2 x.2 false)) := (Mod.of_ext (F := fun i => i = g) HE.out).trans (mod_setCells w2 g _ _) fun _ hi => .inl hi
  refine ⟨⟨_, rfl⟩, H.out.come HX.out hm ?_, hm⟩
  have hlen : (secC x.2 x.2 false).length = 129 := secC_len HX.out.1 HX.out.1
  refine MedAt.set (m' := m.come x) H2.out.med hx 0 (secC x.2 x.2 false) (DM.come_size m x) (by omega) (fun i hi hne => ?_) (fun i hi => ?_) (fun j v hv => ?_)
  · rw [come_sec H2.out.ok hx, if_neg hne]
  · rw [come_sec H2.out.ok hx]
    split
    · exact hlen
    · exact H2.out.ok.sec_len hi
  · rw [come_sec H2.out.ok hx, if_pos rfl] at hv
    have hj : j < (secC x.2 x.2 false).length := (List.getElem?_eq_some_iff.1 hv).1
    rw [if_pos ⟨by omega, by omega⟩]
    exact hv
end Go.Proofs.Ytldgamgdbneneaa
