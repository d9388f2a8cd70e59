/-
  The contract of the disk's carryOut: a write is carried out.
-/
import Derived.Test.YtgcinagkbdcgiaaGreatDoorR00
import Derived.Test.YtgcinagkbdcgiaaGreatDoorR01
import Derived.Test.YtgcinagkbdcgiaaGreatDoorR02
import Derived.StillTailTactics
import Derived.Laws.Tables
import Derived.ProofKit
import Derived.OpenShut
import Derived.Deep.Slices
import Derived.Deep.Fields
import Derived.Deep.RegionHeld3
namespace Go.Proofs.YtgcinagkbdcgiaaGreatDoor
set_option maxRecDepth 100000
section
open Go Go.RowKit
theorem heap_setCells {g t : Nat} {fr : Nat × Nat} : ∀ (vs : List Value) (o : Nat) {w : World} {cs : Array Value}, w.heap[g]? = some (.cells cs t fr) → o + vs.length ≤ cs.size →
    ∃ cs' : Array Value, (w.setCells g o vs).heap[g]? = some (.cells cs' t fr) ∧ cs'.size = cs.size ∧ (∀ j v, vs[j]? = some v → cs'[o + j]? = some v) ∧ ∀ k, k < o ∨ o + vs.length ≤ k → cs'[k]? = cs[k]?
  | [], o, w, cs, h, _ => ⟨cs, h, rfl, fun j v hv => by simp at hv, fun _ _ => rfl⟩
  | x :: r, o, w, cs, h, hl => by
    simp only [List.length_cons] at hl
    have hrow := row_set o h x rfl
    obtain ⟨cs', h1, h2, h3, h4⟩ := heap_setCells r (o + 1) hrow (by simp; omega)
    refine ⟨cs', h1, by rw [h2]; simp, fun j v hv => ?_, fun k hk => ?_⟩
    · cases j with
      | zero =>
        simp only [List.getElem?_cons_zero, Option.some.injEq] at hv
        subst hv
        rw [Nat.add_zero, h4 o (.inl (by omega)), Array.getElem?_setIfInBounds, if_pos rfl, if_pos (by omega)]
      | succ j =>
        have := h3 j v (by simpa using hv)
        rwa [show o + (j + 1) = o + 1 + j by omega]
    · simp only [List.length_cons] at hk
      rw [h4 k (by omega), Array.getElem?_setIfInBounds]
      rw [if_neg (by omega)]
theorem mod_setCells (w : World) (g o : Nat) (vs : List Value) : Mod (fun i => i = g) w (w.setCells g o vs) := (Mod.refl _ _).setCells g o vs (.inl rfl)
theorem MedAt.set {w : World} {g : Nat} {m m' : DM} (h : MedAt w g m) {s : Nat} (hs : s < m.size) (o : Nat) (vs : List Value) (hz : m'.size = m.size) (hin : o + vs.length ≤ 129)
    (hoth : ∀ i, i < m.size → i ≠ s → m'.sec i = m.sec i) (hlen : ∀ i, i < m.size → (m'.sec i).length = 129)
    (hsec : ∀ j v, (m'.sec s)[j]? = some v → if o ≤ j ∧ j < o + vs.length then vs[j - o]? = some v else (m.sec s)[j]? = some v) : MedAt (w.setCells g (s * 129 + o) vs) g m' := by
  obtain ⟨cur, h1, h2, h3⟩ := h
  have hle : (s + 1) * 129 ≤ m.size * 129 := Nat.mul_le_mul_right _ hs
  obtain ⟨cs', c1, c2, c3, c4⟩ := heap_setCells vs (s * 129 + o) h1 (by omega)
  refine ⟨cs', c1, by rw [c2, h2, hz], fun i hi j v hv => ?_⟩
  rw [hz] at hi
  have hj : j < 129 := by rw [← hlen i hi]; exact (List.getElem?_eq_some_iff.1 hv).1
  by_cases he : i = s
  · subst he
    have hh := hsec j v hv
    split at hh
    · rename_i hr
      have := c3 (j - o) v hh
      rwa [show i * 129 + o + (j - o) = i * 129 + j by omega] at this
    · rename_i hr
      rw [c4 _ (by omega)]
      exact h3 i hi j v hh
  · rw [hoth i hi he] at hv
    have hne : i * 129 + j < s * 129 ∨ s * 129 + 129 ≤ i * 129 + j := by
      rcases Nat.lt_or_gt_of_ne he with hlt | hgt
      · left
        have : (i + 1) * 129 ≤ s * 129 := Nat.mul_le_mul_right _ hlt
        omega
      · right
        have : (s + 1) * 129 ≤ i * 129 := Nat.mul_le_mul_right _ hgt
        omega
    rw [c4 _ (by omega)]
    exact h3 i hi j v hv
theorem come_sec {m : DM} (h : m.Ok) {x : Nat × List Nat} (hx : x.1 < m.size) (i : Nat) : (m.come x).sec i = if i = x.1 then secC x.2 x.2 false else m.sec i := by
  unfold DM.sec DM.come
  by_cases e : x.1 = i
  · subst e
    rw [if_pos rfl]
    simp only
    rw [getD_set (show x.1 < m.rest.length from hx), getD_set (show x.1 < m.meant.length by rw [h.meant]; exact hx), getD_set (show x.1 < m.lost.length by rw [h.lost]; exact hx), if_pos rfl, if_pos rfl, if_pos rfl]
  · rw [if_neg (fun h => e h.symm)]
    simp only
    rw [getD_set_ne e, getD_set_ne e, getD_set_ne e]
theorem PD.come {w : World} {d g : Nat} {pv : Value} {m : DM} (h : PD w d g pv m) {x : Nat × List Nat} (hx2 : Sect x.2) {w' : World} (hm : Mod (fun i => i = g) w w') (hmed : MedAt w' g (m.come x)) : PD w' d g pv (m.come x) := by
  have hz := DM.come_size m x
  refine ⟨DM.come_ok h.ok hx2, by rw [hz]; exact h.n1, h.top, ?_, hmed, ?_, h.dg, h.pd⟩
  · rw [hz]
    exact heap_mod h.head hm h.dg
  · exact own_mod h.pen hm fun i hi => (h.pd i hi).2
theorem fold_set : ∀ (cs : List Value) (k : Nat) (o : Nat) (A : Array Value), (cs.zipIdx k).foldl (fun a (p : Value × Nat) => a.setIfInBounds (o + p.2) p.1) A = (cs.zipIdx (o + k)).foldl (fun a (p : Value × Nat) => a.setIfInBounds p.2 p.1) A
  | [], _, _, _ => rfl
  | c :: cs, k, o, A => by
    simp only [List.zipIdx_cons, List.foldl_cons]
    rw [fold_set cs (k + 1) o _]
    rfl
theorem fold_put : ∀ (cs pre mid post : List Value), mid.length = cs.length → (cs.zipIdx pre.length).foldl (fun (a : Array Value) (p : Value × Nat) => a.setIfInBounds p.2 p.1) (pre ++ (mid ++ post)).toArray = (pre ++ (cs ++ post)).toArray
  | [], pre, mid, post, h => by
    obtain rfl := List.eq_nil_of_length_eq_zero (by simpa using h)
    rfl
  | c :: cs, pre, [], post, h => by simp at h
  | c :: cs, pre, x :: mid, post, h => by
    simp only [List.zipIdx_cons, List.foldl_cons]
    have e : (pre ++ (x :: mid ++ post)).toArray.setIfInBounds pre.length c = ((pre ++ [c]) ++ (mid ++ post)).toArray := by
      simp
    rw [e]
    have := fold_put cs (pre ++ [c]) mid post (by simpa using h)
    rw [show (pre ++ [c]).length = pre.length + 1 by simp] at this
    rw [this]
    simp
theorem fill_one (place : Nat → Option (Nat × Nat)) (i : Nat) (cs pre mid post : List Value) (n : Nat) (hp : place i = some (pre.length, n)) (hn : cs.length = n) (hm : mid.length = n) (rest : List (Nat × Value)) :
    Instr.fill place (pre ++ (mid ++ post)).toArray ((i, .agg cs.toArray) :: rest) = Instr.fill place (pre ++ (cs ++ post)).toArray rest := by
  rw [Instr.fill]
  simp only [hp]
  have e1 : (Value.agg cs.toArray).cells = cs.toArray := rfl
  rw [e1]
  rw [if_neg (by simp; omega)]
  congr 1
  have := fold_put cs pre mid post (by omega)
  rw [← this]
  have h2 := fold_set cs 0 pre.length (pre ++ (mid ++ post)).toArray
  rw [Nat.add_zero] at h2
  rw [← h2]
  simp
theorem med_built (a b : List Nat) (ha : a.length = 64) (hb : b.length = 64) : Tryz.prog.built 207 [(0, .agg (vb a).toArray), (1, .agg (vb b).toArray)] = some (secC a b false).toArray := by
  have key : ∃ places, Tryz.prog.built 207 [(0, .agg (vb a).toArray), (1, .agg (vb b).toArray)] = Instr.fill (fun i => (places : Array (Nat × Nat))[i]?) zMed [(0, .agg (vb a).toArray), (1, .agg (vb b).toArray)] ∧ places[0]? = some (0, 64) ∧ places[1]? = some (64, 64) := by
    refine ⟨#[(0, 64), (64, 64), (128, 1)], ?_, rfl, rfl⟩
    kernel_rfl
  obtain ⟨places, h1, h2, h3⟩ := key
  rw [h1]
  have z0 : zMed = ([] ++ (vb z64 ++ (vb z64 ++ [Value.bool false]))).toArray := rfl
  rw [z0, fill_one _ 0 (vb a) [] (vb z64) (vb z64 ++ [Value.bool false]) 64 h2 (by rw [vb_length, ha]) (by simp [vb_length, z64])]
  rw [List.nil_append]
  rw [fill_one _ 1 (vb b) (vb a) (vb z64) [Value.bool false] 64 (by rw [vb_length, ha]; exact h3) (by rw [vb_length, hb]) (by simp [vb_length, z64])]
  rfl
theorem still_load {ops : Array Oper} {o : Oper} {a : Act} {w : World} {K : Act → Prop} (ty : TypeId) (x : Operand) (ho : o.op = .load ty x) (b p : Nat) (hx : a.eval x = .pointer (some ⟨b, p, none⟩)) (cs : List Value) (d : TypeDesc) (hc : w.rangeAt b p cs)
    (hu : Tryz.prog.underlying ty = some d) (hd : d.isRow = true) (hi : (Tryz.prog.info? ty).map (·.size) = some cs.length) (hw : Region.wanted o (yielded ops a.tmps) = true) (h : K (a.put o.dst (.agg cs.toArray))) :
    if Region.wanted o (yielded ops a.tmps) then o.still Tryz.prog a w K else K (a.put o.dst undef) := by
  rw [if_pos hw]
  unfold Oper.still execOp
  simp only [ho, hx, Instr.loadAt, Instr.sureAddr, Sem.run_bind, Sem.run_pure, Result.andThen_ok, run_loadVar_mid w b p ty cs d hc hu hd hi, Oper.stillUpon_value]
  exact h
theorem still_build {ops : Array Oper} {o : Oper} {a : Act} {w : World} {K : Act → Prop} (t : TypeId) (parts : Array (Nat × Operand)) (ho : o.op = .build t parts) (cells : Array Value) (hb : Tryz.prog.built t (parts.map fun (i, x) => (i, a.eval x)).toList = some cells)
    (hw : Region.wanted o (yielded ops a.tmps) = true) (h : K (a.put o.dst (.agg cells))) : if Region.wanted o (yielded ops a.tmps) then o.still Tryz.prog a w K else K (a.put o.dst undef) := by
  rw [if_pos hw]
  unfold Oper.still execOp
  simp only [ho, Sem.run_bind, run_build w t _ cells hb, Result.andThen_ok, Sem.run_pure, Oper.stillUpon_value]
  exact h
theorem still_tail {id : Nat} {Q : Exit → Act → World → Prop} {a : Act} {w : World} {l : List Oper} (n : Nat) (hm : Tryz.prog.follows .mixedOrders = true) (hB : Region.lexTailB .any l.toArray n = true)
    (h : wpStill Tryz.prog l.toArray w.drew (fun a' => wpList Tryz.prog l.toArray Q (l.drop n) a' w.drew) (l.take n) a) : (Code.region id l.toArray true).wp Tryz.prog Q a w := wp_region_still_tail n hm hB h
theorem wri_cut (x : Nat × List Nat) : wriC x = vb x.2 ++ [.int .i64 (x.1 : Int)] := rfl
theorem wri_64 {x : Nat × List Nat} (h : x.2.length = 64) : (wriC x)[64]? = some (.int .i64 (x.1 : Int)) := by
  rw [wri_cut, List.getElem?_append_right (by rw [vb_length]; omega), vb_length, h]
  rfl
theorem there_of {w : World} {g t : Nat} {cs : Array Value} (h : w.heap[g]? = some (.cells cs t (0, 0))) (o n : Nat) (hn : o + n ≤ cs.size) : w.there g o n := fun j hj => by
  refine ⟨?_, frozen_of_row w g _ _ _ h⟩
  rw [cell_of_row w g (o + j) cs t (0, 0) h, Array.getElem?_eq_getElem (by omega)]
  rfl
set_option maxHeartbeats 1600000 in
theorem carry_of {w : World} {d g : Nat} {pv : Value} {m : DM} (h : PD w d g pv m) (x : Nat × List Nat) (hx : x.1 < m.size) (hx2 : Sect x.2) :
    Calls Tryz.prog 115 #[.pointer (some ⟨d, 0, none⟩), .agg (wriC x).toArray] w fun e w' => (∃ v, e = .returned v) ∧ PD w' d g pv (m.come x) ∧ Mod (fun i => i = g) w w' := by
  have H := Lib.hid h
  have hE := ((Ext.refl w).alloc (.cells (wriC x).toArray 191)).drew
  have H2 := Lib.hid (h.ext hE)
  obtain ⟨⟨c0, c1, c2, c3, c4⟩, f0, f1, f2, f3, f4⟩ := (h.ext hE).cells
  have hb64 : (w.alloc (.cells (wriC x).toArray 191)).drew.cell? ⟨w.heap.size, 64, none⟩ = some (.int .i64 (x.1 : Int)) := by
    rw [show (w.alloc (.cells (wriC x).toArray 191)).drew.cell? ⟨w.heap.size, 64, none⟩ = (w.alloc (.cells (wriC x).toArray 191)).cell? ⟨w.heap.size, 64, none⟩ from rfl, World.cell?_alloc_new, List.getElem?_toArray, wri_64 hx2.1]
  have HR : Hid ((w.alloc (.cells (wriC x).toArray 191)).drew.rangeAt w.heap.size 0 (vb x.2)) := Lib.hid (range_new w _ _ [] _ _ (wri_cut x) 0 rfl)
  have HX := Lib.hid hx2
  have HB := Lib.hid (med_built x.2 x.2 hx2.1 hx2.1)
  have HE := Lib.hid hE
  have hlt : (x.1 : Int) < (m.size : Nat) := by omega
  have hge : (0 : Int) ≤ (x.1 : Int) := by omega
  clear h hE hx2 f0 f1 f2 f3 f4 c0 c1 c2 c4
  go_enter Tryz.func115, Tryz.ntmps115
  go_wp2_with fail
  refine still_tail 12 (by kernel_rfl) (by kernel_rfl) ?_
  simp only [List.take_succ_cons, List.take_zero, List.drop_succ_cons, List.drop_zero]
  generalize (w.alloc (.cells (wriC x).toArray 191)).drew = w2 at *
  still_step
  still_step
  still_step
  still_step
  still_step
  still_step
  still_step
  refine wpStill_step (fun K hK => ?_)
  refine still_load 189 _ rfl w.heap.size 0 rfl (vb x.2) _ HR.out Tryz.underlying189 rfl (by rw [sz_con, vb_length, HX.out.1]) (by rfl) (hK _ ?_)
  clear hK K
  still_step
  refine wpStill_step (fun K hK => ?_)
  refine still_load 189 _ rfl w.heap.size 0 rfl (vb x.2) _ HR.out Tryz.underlying189 rfl (by rw [sz_con, vb_length, HX.out.1]) (by rfl) (hK _ ?_)
  clear hK K
  refine wpStill_step (fun K hK => ?_)
  refine still_build 207 _ rfl (secC x.2 x.2 false).toArray (by simpa [Act.eval, Act.put] using HB.out) (by rfl) (hK _ ?_)
  clear hK K
  still_step
  refine wpStill_nil ?_
  obtain ⟨cur, hg, hsz, hcur⟩ := H2.out.med
  have hle : (x.1 + 1) * 129 ≤ m.size * 129 := Nat.mul_le_mul_right _ hx
  have hlen : (secC x.2 x.2 false).length = 129 := secC_len HX.out.1 HX.out.1
  have HTH : Hid (w2.there g (x.1 * 129) (secC x.2 x.2 false).toArray.size) := Lib.hid (there_of hg _ _ (by rw [List.size_toArray, hlen, hsz]; omega))
  have HSZ : Hid ((Tryz.prog.info? 207).map (·.size) = some (secC x.2 x.2 false).toArray.size) := Lib.hid (by rw [sz_med, List.size_toArray, hlen])
  clear hcur hg hsz hle hlen c3 hb64
  go_wp2_with (refine wpList_store_mid rfl 207 _ _ rfl g (x.1 * 129) (secC x.2 x.2 false).toArray rfl rfl HTH.out HSZ.out (all_oneCell_toArray (secC_one _ _ _)) ?_)
  go_end0
  have hm : Mod (fun i => i = g) w (w2.setCells g (x.1 * 129) (secC x.2 x.2 false)) := (Mod.of_ext (F := fun i => i = g) HE.out).trans (mod_setCells w2 g _ _) fun _ hi => .inl hi
  refine ⟨⟨_, rfl⟩, H.out.come HX.out hm ?_, hm⟩
  have hlen : (secC x.2 x.2 false).length = 129 := secC_len HX.out.1 HX.out.1
  refine MedAt.set (m' := m.come x) H2.out.med hx 0 (secC x.2 x.2 false) (DM.come_size m x) (by omega) (fun i hi hne => ?_) (fun i hi => ?_) (fun j v hv => ?_)
  · rw [come_sec H2.out.ok hx, if_neg hne]
  · rw [come_sec H2.out.ok hx]
    split
    · exact hlen
    · exact H2.out.ok.sec_len hi
  · rw [come_sec H2.out.ok hx, if_pos rfl] at hv
    have hj : j < (secC x.2 x.2 false).length := (List.getElem?_eq_some_iff.1 hv).1
    rw [if_pos ⟨by omega, by omega⟩]
    exact hv
end
section
open Go Go.RowKit Go.ChangeShapes Go.WideShapes
theorem bs_of_row {w : World} {x : Addr} {n c : Nat} {zs : List Int} (hl : n ≤ c) (hm : c ≤ maxLen) (hz : zs.length = c) (hcell : ∀ i, i < zs.length → w.cell? (x.add i) = some (.int .u8 (zs.getD i 0))) (hwz : ∀ z ∈ zs, (Lit.int .u8 z).wf = true) :
    Bs w w.heap.size (some x) n c ((zs.take n).map Int.toNat) := by
  have hb : ∀ z ∈ zs, 0 ≤ z ∧ z < 256 := by
    intro z hzm
    have := bounds_u8 (hwz z hzm)
    omega
  refine ⟨by simp [hz, hl], hl, by unfold maxLen at hm; exact hm, ⟨?_, ?_⟩, fun h => by cases h⟩
  · intro b hbm
    simp only [List.mem_map] at hbm
    obtain ⟨z, hzm, rfl⟩ := hbm
    have := hb z (List.mem_of_mem_take hzm)
    omega
  · intro h0
    have hn : 0 < n := by
      rw [List.length_map, List.length_take] at h0
      omega
    obtain ⟨g, o, spot⟩ := x
    have hc := hcell 0 (by omega)
    have hspot : spot = none := by simpa [Addr.add] using World.cell?_spot hc
    subst hspot
    refine ⟨g, o, rfl, ?_, fun j y hy => ?_⟩
    · have := World.block_lt_of_cell? w _ hc
      simpa [Addr.add] using this
    · rw [List.getElem?_map] at hy
      obtain ⟨z, hzj, rfl⟩ := Option.map_eq_some_iff.1 hy
      have hjn : j < n ∧ zs[j]? = some z := by
        rw [List.getElem?_take] at hzj
        split at hzj
        · exact ⟨by assumption, hzj⟩
        · cases hzj
      have hzb := hb z (List.mem_of_getElem? hjn.2)
      have h2 := hcell j (by omega)
      rw [Addr.add_lit] at h2
      rw [h2, List.getD_eq_getElem?_getD, hjn.2]
      simp only [Option.getD_some]
      rw [Int.toNat_of_nonneg hzb.1]
end
section
open Go Go.RowKit Go.ChangeShapes Go.WideShapes Go.Deep
structure Vs (w : World) (B : Nat) (A : Option Addr) (n c : Nat) (vs : List Value) : Prop where
  len : vs.length = n
  cap : n ≤ c
  most : c ≤ 9223372036854775807
  rd : 0 < n → ∃ g o, A = some ⟨g, o, none⟩ ∧ g < B ∧ ∀ j v, vs[j]? = some v → w.cell? ⟨g, o + j, none⟩ = some v
  nil_ : A = none → c = 0
theorem Vs.below {w w' : World} {B : Nat} {A : Option Addr} {n c : Nat} {vs : List Value} (h : Vs w B A n c vs) (hb : Below B w w') : Vs w' B A n c vs :=
  ⟨h.len, h.cap, h.most, fun hn => by
    obtain ⟨g, o, e, hg, hc⟩ := h.rd hn
    exact ⟨g, o, e, hg, fun j v hv => (hb.cell (p := ⟨g, o + j, none⟩) hg).trans (hc j v hv)⟩, h.nil_⟩
theorem Vs.more {w : World} {B B' : Nat} {A : Option Addr} {n c : Nat} {vs : List Value} (h : Vs w B A n c vs) (hB : B ≤ B') : Vs w B' A n c vs :=
  ⟨h.len, h.cap, h.most, fun hn => by
    obtain ⟨g, o, e, hg, hc⟩ := h.rd hn
    exact ⟨g, o, e, by omega, hc⟩, h.nil_⟩
structure Act5 where
  kind : Nat := 0
  sec : Int := 0
  num : Int := 0
  bA : Option Addr := none
  bn : Nat := 0
  bc : Nat := 0
  bl : List Nat := []
  kA : Option Addr := none
  kn : Nat := 0
  kc : Nat := 0
  kl : List Bool := []
instance : Inhabited Act5 := ⟨{}⟩
def Act5.cells (a : Act5) : List Value := [.int .u8 (a.kind : Int), .int .i64 a.sec, .int .i64 a.num, .slice a.bA a.bn a.bc, .slice a.kA a.kn a.kc]
structure Act5.Ok (a : Act5) (w : World) (B : Nat) : Prop where
  kind : a.kind < 256
  sec : (Lit.int .i64 a.sec).wf = true
  num : (Lit.int .i64 a.num).wf = true
  bytes : Bs w B a.bA a.bn a.bc a.bl
  keep : Vs w B a.kA a.kn a.kc (a.kl.map .bool)
theorem Act5.Ok.below {a : Act5} {w w' : World} {B : Nat} (h : a.Ok w B) (hb : Below B w w') : a.Ok w' B := ⟨h.kind, h.sec, h.num, h.bytes.below hb, h.keep.below hb⟩
theorem Act5.Ok.more {a : Act5} {w : World} {B B' : Nat} (h : a.Ok w B) (hB : B ≤ B') : a.Ok w B' := ⟨h.kind, h.sec, h.num, h.bytes.more hB, h.keep.more hB⟩
structure Acts (w : World) (B : Nat) (A : Option Addr) (n c : Nat) (l : List Act5) : Prop where
  len : l.length = n
  cap : n ≤ c
  most : c ≤ 9223372036854775807
  each : ∀ a ∈ l, a.Ok w B
  rd : 0 < n → ∃ g o, A = some ⟨g, o, none⟩ ∧ g < B ∧ ∀ j a, l[j]? = some a → ∀ k v, a.cells[k]? = some v → w.cell? ⟨g, o + (j * 5 + k), none⟩ = some v
  nil_ : A = none → c = 0
theorem Acts.below {w w' : World} {B : Nat} {A : Option Addr} {n c : Nat} {l : List Act5} (h : Acts w B A n c l) (hb : Below B w w') : Acts w' B A n c l :=
  ⟨h.len, h.cap, h.most, fun a ha => (h.each a ha).below hb, fun hn => by
    obtain ⟨g, o, e, hg, hc⟩ := h.rd hn
    exact ⟨g, o, e, hg, fun j a ha k v hv => (hb.cell (p := ⟨g, o + (j * 5 + k), none⟩) hg).trans (hc j a ha k v hv)⟩, h.nil_⟩
theorem Acts.more {w : World} {B B' : Nat} {A : Option Addr} {n c : Nat} {l : List Act5} (h : Acts w B A n c l) (hB : B ≤ B') : Acts w B' A n c l :=
  ⟨h.len, h.cap, h.most, fun a ha => (h.each a ha).more hB, fun hn => by
    obtain ⟨g, o, e, hg, hc⟩ := h.rd hn
    exact ⟨g, o, e, by omega, hc⟩, h.nil_⟩
theorem Acts.at_ {w : World} {B : Nat} {A : Option Addr} {n c : Nat} {l : List Act5} (h : Acts w B A n c l) {j : Nat} (hj : j < n) : ∃ g o a, A = some ⟨g, o, none⟩ ∧ g < B ∧ l[j]? = some a ∧ a.Ok w B ∧
    w.cell? ⟨g, o + j * 5, none⟩ = some (.int .u8 (a.kind : Int)) ∧ w.cell? ⟨g, o + j * 5 + 1, none⟩ = some (.int .i64 a.sec) ∧ w.cell? ⟨g, o + j * 5 + 2, none⟩ = some (.int .i64 a.num) ∧
    w.cell? ⟨g, o + j * 5 + 3, none⟩ = some (.slice a.bA a.bn a.bc) ∧ w.cell? ⟨g, o + j * 5 + 4, none⟩ = some (.slice a.kA a.kn a.kc) := by
  obtain ⟨g, o, e, hg, hc⟩ := h.rd (by omega)
  have hj' : j < l.length := by rw [h.len]; exact hj
  have ha : l[j]? = some l[j] := List.getElem?_eq_getElem hj'
  have cell := fun (k : Nat) (v : Value) (hv : (l[j]).cells[k]? = some v) => hc j _ ha k v hv
  exact ⟨g, o, l[j], e, hg, ha, h.each _ (List.getElem_mem hj'), cell 0 _ rfl, cell 1 _ rfl, cell 2 _ rfl, cell 3 _ rfl, cell 4 _ rfl⟩
section
variable {H : Type} {enc : TypeId × Value → H} {P : Program} {w : World} {base : Nat} {spare : Nat → Bool} {held : Bool}
theorem trod_bytes {t e : TypeId} {fuel : Nat} {cs : List Value} {x : DataW H × List MemPlace} (ht : P.underlying t = some (.slice e)) (he : P.underlying e = some (.int .u8)) (hce : P.cellsOf e = 1)
    (hsp : ∀ g, spare g = true) (h : DataW.trod enc P w base spare held fuel t cs = some x) : ∃ (A : Option Addr) (n c : Nat) (l : List Nat), cs = [.slice A n c] ∧ Bs w w.heap.size A n c l := by
  rcases open_ints ht he hce h with ⟨rfl, _⟩ | ⟨a, l, c, zs, rfl, _, hl, hm, hz, _, hcell, hwz⟩
  · exact ⟨none, 0, 0, [], rfl, rfl, Nat.le_refl _, by omega, Rd.nil_, fun _ => rfl⟩
  · rw [hsp, if_pos rfl] at hz
    exact ⟨_, _, _, _, rfl, bs_of_row hl hm hz hcell hwz⟩
theorem trod_bools {t e : TypeId} {fuel : Nat} {cs : List Value} {x : DataW H × List MemPlace} (ht : P.underlying t = some (.slice e)) (he : P.underlying e = some .bool) (hce : P.cellsOf e = 1)
    (h : DataW.trod enc P w base spare held fuel t cs = some x) : ∃ (A : Option Addr) (n c : Nat) (l : List Bool), cs = [.slice A n c] ∧ Vs w w.heap.size A n c (l.map .bool) := by
  rcases open_slice1 ht hce h with ⟨rfl, _⟩ | ⟨a, len, cap, m, n, V, D, Pl, rfl, _, hl, hm, hmm, _, hi⟩
  · exact ⟨none, 0, 0, [], rfl, rfl, Nat.le_refl _, by omega, fun h => absurd h (by omega), fun _ => rfl⟩
  · have hle : len ≤ m := by rw [hmm]; split <;> omega
    have each : ∀ i, i < len → ∃ b : Bool, w.cell? (a.add i) = some (.bool b) := fun i hil => by
      obtain ⟨h1, h2⟩ := hi i (by omega)
      obtain ⟨b, hb, _⟩ := DataW.trod_bool he h2
      injection hb with hb
      rw [hb] at h1
      exact ⟨b, h1⟩
    obtain ⟨f, hf⟩ := choose_lt each
    refine ⟨some a, len, cap, (List.range len).map f, rfl, by simp, hl, by unfold maxLen at hm; exact hm, fun hn => ?_, fun h => by cases h⟩
    obtain ⟨g, o, spot⟩ := a
    have hc := hf 0 hn
    have hspot : spot = none := by simpa [Addr.add] using World.cell?_spot hc
    subst hspot
    refine ⟨g, o, rfl, ?_, fun j v hv => ?_⟩
    · have := World.block_lt_of_cell? w _ hc
      simpa [Addr.add] using this
    · rw [List.getElem?_map, List.getElem?_map] at hv
      obtain ⟨b, hb, rfl⟩ := Option.map_eq_some_iff.1 hv
      obtain ⟨i, hi2, rfl⟩ := Option.map_eq_some_iff.1 hb
      obtain ⟨hjl, hji⟩ := List.getElem?_eq_some_iff.1 hi2
      simp at hjl hji
      subst hji
      have := hf j hjl
      rwa [Addr.add_lit] at this
theorem open_bools {t e : TypeId} (ht : P.underlying t = some (.slice e)) (he : P.underlying e = some .bool) (hce : P.cellsOf e = 1) {r : Reach} {b0 : Nat} {v : Value} {d : DataW H} {p : List MemPlace}
    (hv : Value.okWide P w r b0 t v) (h : DataW.Trod enc P w base (fun _ => true) held t v d p) : ∃ (A : Option Addr) (n c : Nat) (l : List Bool), v = .slice A n c ∧ Vs w w.heap.size A n c (l.map .bool) := by
  obtain ⟨A, n, c, rfl⟩ := okWide_slice ht hv
  obtain ⟨fuel, hf⟩ := h
  obtain ⟨A', n', c', l, hcs, hl⟩ := trod_bools ht he hce hf
  simp [Value.cells] at hcs
  obtain ⟨rfl, rfl, rfl⟩ := hcs
  exact ⟨_, _, _, l, rfl, hl⟩
end
end
section
open Go Go.RowKit
theorem PD.pen_at {w : World} {d g : Nat} {pv : Value} {m : DM} (h : PD w d g pv m) {j : Nat} {x : Nat × List Nat} (hx : m.waits[j]? = some x) :
    ∃ b c, pv = .slice (some ⟨b, 0, none⟩) m.waits.length c ∧ w.rangeAt b (j * 65) (wriC x) := by
  have hj : j < m.waits.length := (List.getElem?_eq_some_iff.1 hx).1
  rcases h.pen.2 with ⟨_, h0⟩ | ⟨b, cap, cur, rfl, _, hg, h1, h2, h3, h4⟩
  · omega
  · refine ⟨b, cap, rfl, fun i v hv => ?_⟩
    rw [cell_of_row w b _ cur _ _ hg]
    have hp := penC_get (fun y hy => (h.ok.waits y hy).2.1) hx i v hv
    rw [← h4] at hp
    rw [List.getElem?_take] at hp
    split at hp
    · simpa using hp
    · cases hp
theorem PD.cleared {w w' : World} {d g : Nat} {pv : Value} {m : DM} (h : PD w d g pv m) (k : Mod (fun i => i = d) w w') (m' : DM)
    (hh : HeadAt w' d (.pointer (some ⟨d, 0, none⟩)) (stOf m') m'.power (.slice (some ⟨g, 0, none⟩) m.size m.size) (.slice none 0 0))
    (hok : m'.Ok) (h1 : m'.rest = m.rest) (h2 : m'.meant = m.meant) (h3 : m'.lost = m.lost) (h4 : m'.waits = []) (hp : m'.power = m.power) : PD w' d g (.slice none 0 0) m' := by
  have hz : m'.size = m.size := by unfold DM.size; rw [h1]
  refine ⟨hok, by rw [hz]; exact h.n1, by rw [hp]; exact h.top, by rw [hz]; exact hh, ?_, ?_, h.dg, fun k hk => (by cases hk)⟩
  · obtain ⟨cur, c1, c2, c3⟩ := h.med.mod k (fun e => h.dg e.symm)
    exact ⟨cur, c1, by rw [hz]; exact c2, fun s hs j v hv => c3 s (by rw [← hz]; exact hs) j v (by unfold DM.sec at hv ⊢; rw [h1, h2, h3] at hv; exact hv)⟩
  · rw [h4]
    exact World.ownsRow_nil _ _ _ _
theorem comes_snoc (m : DM) (l : List (Nat × List Nat)) (x : Nat × List Nat) : m.comes (l ++ [x]) = (m.comes l).come x := by simp [DM.comes]
theorem take_snoc {l : List (Nat × List Nat)} {j : Nat} {x : Nat × List Nat} (h : l[j]? = some x) : l.take (j + 1) = l.take j ++ [x] := by
  rw [List.take_add_one, h]; rfl
def Fdg (d g : Nat) (i : Nat) : Prop := i = d ∨ i = g
theorem Fdg.of_d {d g : Nat} {w w' : World} (h : Mod (fun i => i = d) w w') : Mod (Fdg d g) w w' := h.mono fun _ hi => .inl hi
theorem Fdg.of_g {d g : Nat} {w w' : World} (h : Mod (fun i => i = g) w w') : Mod (Fdg d g) w w' := h.mono fun _ hi => .inr hi
theorem Mod.then {F : Nat → Prop} {a b c : World} (h : Mod F a b) (k : Mod F b c) : Mod F a c := h.trans k fun _ hi => .inl hi
set_option maxHeartbeats 3200000 in
theorem flush_of {w : World} {d g : Nat} {pv : Value} {m : DM} (h : PD w d g pv m) :
    Calls Tryz.prog 146 #[.pointer (some ⟨d, 0, none⟩)] w fun e w' => ∃ pv', e = .returned (.int .i64 m.flush.1) ∧ PD w' d g pv' m.flush.2 ∧ (pv' = pv ∨ pv' = .slice none 0 0) ∧ Mod (Fdg d g) w w' := by
  have hr := running_of h none 0 0 [] (ZsAt.nil_ w)
  have HR := Lib.hid hr
  have H := Lib.hid h
  have HE : Hid (runE m [] = if m.up = false then 5 else 0) := Lib.hid (by
    unfold runE knownE
    simp)
  have HP : Hid (m.flush = if m.up = false then (5, m) else if m.power = 0 then (5, { m with dead := true }) else (0, { ({ m with power := lessP m.power } : DM).comes m.waits with waits := [] })) := Lib.hid rfl
  have HO := Lib.hid (DM.flush_ok h.ok)
  clear h hr
  by_cases hu : m.up = false
  · have HE1 : Hid (runE m [] = 5) := Lib.hid (by rw [HE.out, if_pos hu])
    have HP1 : Hid (m.flush = (5, m)) := Lib.hid (by rw [HP.out, if_pos hu])
    clear hu HE HP
    go_enter Tryz.func146, Tryz.ntmps146
    go_wp2_with fail
    refine HR.out.mono ?_
    rw [HE1.out]
    rintro e w1 ⟨rfl, rfl⟩
    go_wp2_with fail
    go_ret
    exact ⟨pv, by rw [HP1.out]; rfl, by rw [HP1.out]; exact H.out, .inl rfl, Mod.refl _ _⟩
  · have HE1 : Hid (runE m [] = 0) := Lib.hid (by rw [HE.out, if_neg hu])
    have hup : m.up = true := by simpa using hu
    have hdr := draw_of H.out.headAt H.out.ok.power H.out.top
    have HD := Lib.hid hdr
    by_cases hp0 : m.power = 0
    · have HP1 : Hid (m.flush = (5, { m with dead := true })) := Lib.hid (by rw [HP.out, if_neg hu, if_pos hp0])
      have HS : Hid (drawE m.power = 5 ∧ drawS m.power (stOf m) = stOf { m with dead := true } ∧ lessP m.power = 0) := Lib.hid ⟨by rw [hp0]; rfl, by
        rw [hp0]
        show (1 : Int) = stOf { m with dead := true }
        unfold stOf
        have hd : m.down = false := by
          unfold DM.up at hup
          cases hm : m.down <;> simp_all
        simp [hd], by rw [hp0]; rfl⟩
      have HP0 := Lib.hid hp0
      clear hu hup hdr hp0 HE HP
      go_enter Tryz.func146, Tryz.ntmps146
      go_wp2_with fail
      refine HR.out.mono ?_
      rw [HE1.out]
      rintro e w1 ⟨rfl, rfl⟩
      go_wp2_with fail
      refine HD.out.mono ?_
      rw [HS.out.1, HS.out.2.1, HS.out.2.2]
      rintro e w1 ⟨rfl, hh, hm⟩
      have HM := Lib.hid hm
      have HH := Lib.hid hh
      clear hh hm
      go_wp2_with fail
      go_ret
      refine ⟨pv, by rw [HP1.out]; rfl, ?_, .inl rfl, Fdg.of_d HM.out⟩
      exact H.out.head_turned HM.out (stOf { m with dead := true }) 0 HH.out _ HO.out (by rw [HP1.out]) (by rw [HP1.out]) (by rw [HP1.out]) (by rw [HP1.out]) (by rw [HP1.out]) (by rw [HP1.out]; exact HP0.out) (by omega)
    · have HP1 : Hid (m.flush = (0, { ({ m with power := lessP m.power } : DM).comes m.waits with waits := [] })) := Lib.hid (by rw [HP.out, if_neg hu, if_neg hp0])
      have HS : Hid (drawE m.power = 0 ∧ drawS m.power (stOf m) = stOf m) := Lib.hid ⟨if_neg hp0, if_neg hp0⟩
      clear hu hup hdr hp0 HE HP
      go_enter Tryz.func146, Tryz.ntmps146
      go_wp2_with fail
      refine HR.out.mono ?_
      rw [HE1.out]
      rintro e w1 ⟨rfl, rfl⟩
      go_wp2_with fail
      refine HD.out.mono ?_
      rw [HS.out.1, HS.out.2]
      rintro e w1 ⟨rfl, hh, hm⟩
      have hpd : PD w1 d g pv { m with power := lessP m.power } := H.out.head_turned hm (stOf m) (lessP m.power) hh { m with power := lessP m.power } ⟨H.out.ok.meant, H.out.ok.lost, H.out.ok.rests, H.out.ok.means, H.out.ok.waits, lessP_le H.out.ok.power⟩ rfl rfl rfl rfl rfl rfl (by
        have := H.out.top
        unfold lessP
        split <;> omega)
      have HPW : Hid (({ m with power := lessP m.power } : DM).waits = m.waits) := Lib.hid rfl
      generalize ({ m with power := lessP m.power } : DM) = m1 at *
      have HM := Lib.hid (Fdg.of_d (g := g) hm)
      have H1 := Lib.hid hpd
      obtain ⟨⟨c0, c1, c2, c3, c4⟩, _⟩ := hpd.cells
      obtain ⟨A, c, hpv, hcap, hmost⟩ := hpd.pv_form
      rw [HPW.out] at hpv hcap
      obtain ⟨k, hk⟩ : ∃ k, m.waits.length = k := ⟨_, rfl⟩
      have HK := Lib.hid hk
      rw [hk] at hpv hcap
      subst hpv
      clear hh hm hpd hk c0 c1 c2 c3
      go_wp2_with fail
      go_loopw [22] (fun i wr => ∃ j : Nat, j ≤ k ∧ i = .int .i64 j ∧ PD wr d g (.slice A k c) (m1.comes (m.waits.take j)) ∧ Mod (Fdg d g) w wr) (fun i _ => k - (intOf i).toNat)
      case atStart => exact ⟨0, Nat.zero_le _, rfl, H1.out, HM.out⟩
      case round =>
        obtain ⟨j, hj, rfl, hpd, hmod⟩ := hrel
        have HPD := Lib.hid hpd
        have HMD := Lib.hid hmod
        clear hpd hmod c4
        by_cases hlt : j < k
        · obtain ⟨x, hx⟩ : ∃ x, m.waits[j]? = some x := ⟨_, List.getElem?_eq_getElem (by rw [HK.out]; exact hlt)⟩
          have hcw := DM.comes_waits (m.waits.take j) m1
          have hx2 : (m1.comes (m.waits.take j)).waits[j]? = some x := by rw [hcw.1, HPW.out]; exact hx
          obtain ⟨b, c', hpv, hrange⟩ := HPD.out.pen_at hx2
          injection hpv with hA hB hC
          subst hA
          clear hB hC
          have hxm := HPD.out.ok.waits x (List.mem_of_getElem? hx2)
          have HX := Lib.hid hx
          have HXM := Lib.hid hxm
          have HRG := Lib.hid hrange
          have HL65 : Hid ((wriC x).length = 65) := Lib.hid (wriC_len hxm.2.1)
          have hzv := zv_wri
          have HRN : Hid ((wr.alloc (.cells (wriC x).toArray 191)).rangeAt wr.heap.size 0 (wriC x)) := Lib.hid (range_new wr _ (wriC x) [] (wriC x) [] (by simp) 0 rfl)
          clear hcw hx hx2 hrange hxm
          go_wp2_with (first
            | (refine wl_wri rfl _ rfl b (j * 65) rfl (wriC x) HRG.out HL65.out ?_)
            | (refine ws_wri rfl _ _ rfl (wriC x) rfl rfl HL65.out (wriC_one x) ?_)
            | (refine wl_wri rfl _ rfl wr.heap.size 0 rfl (wriC x) HRN.out HL65.out ?_))
          have hE := (Ext.refl wr).alloc (.cells (wriC x).toArray 191)
          refine (carry_of (HPD.out.ext hE) x HXM.out.1 HXM.out.2).mono ?_
          rintro e w3 ⟨⟨v, rfl⟩, hp3, hm3⟩
          have HP3 := Lib.hid hp3
          have HM3 := Lib.hid ((HMD.out.ext hE).then (Fdg.of_g hm3))
          clear hp3 hm3 hE
          go_wp2_with fail
          go_roundw
          case rel => exact ⟨j + 1, by omega, by go_num, by rw [take_snoc HX.out, comes_snoc]; exact HP3.out, HM3.out⟩
          case measure => simp [intOf]; omega
        · have HTK : Hid (m.waits.take j = m.waits) := Lib.hid (List.take_of_length_le (by rw [HK.out]; omega))
          obtain ⟨⟨c0, c1, c2, c3, c4⟩, f0, f1, f2, f3, f4⟩ := HPD.out.cells
          clear c0 c1 c2 c3 f0 f1 f2 f3
          go_wp2_with fail
          go_ret
          have hpd := HPD.out
          rw [HTK.out] at hpd
          have hm4 : Mod (fun i => i = d) wr (wr.setCell ⟨d, 4, none⟩ (.slice none 0 0)) := (Mod.refl _ _).own_cell _ _
          refine ⟨.slice none 0 0, by rw [HP1.out]; rfl, ?_, .inr rfl, HMD.out.then (Fdg.of_d hm4)⟩
          refine hpd.cleared hm4 _ ?_ HO.out (by rw [HP1.out]) (by rw [HP1.out]) (by rw [HP1.out]) (by rw [HP1.out]) (by rw [HP1.out])
          rw [HP1.out]
          exact row_set 4 hpd.head _ rfl
end
section
open Go Go.RowKit
theorem PD.sec_turned {w w' : World} {d g : Nat} {pv : Value} {m : DM} (h : PD w d g pv m) (hm : Mod (fun i => i = g) w w') (m' : DM) (hok : m'.Ok) (hz : m'.size = m.size) (hmed : MedAt w' g m') (h1 : m'.waits = m.waits) (h2 : m'.down = m.down) (h3 : m'.dead = m.dead) (h4 : m'.power = m.power) : PD w' d g pv m' := by
  refine ⟨hok, by rw [hz]; exact h.n1, by rw [h4]; exact h.top, ?_, hmed, ?_, h.dg, h.pd⟩
  · rw [hz, h4, show stOf m' = stOf m by unfold stOf; rw [h2, h3]]
    exact heap_mod h.head hm h.dg
  · rw [h1]
    exact own_mod h.pen hm fun i hi => (h.pd i hi).2
theorem secC_get {r m : List Nat} {l : Bool} (hr : r.length = 64) (hm : m.length = 64) (j : Nat) (v : Value) (h : (secC r m l)[j]? = some v) : (j < 64 ∧ (vb r)[j]? = some v) ∨ (64 ≤ j ∧ j < 128 ∧ (vb m)[j - 64]? = some v) ∨ (j = 128 ∧ v = .bool l) := by
  unfold secC at h
  by_cases h1 : j < 64
  · rw [List.getElem?_append_left (by rw [vb_length]; omega)] at h
    exact .inl ⟨h1, h⟩
  · rw [List.getElem?_append_right (by rw [vb_length]; omega), vb_length, hr] at h
    by_cases h2 : j < 128
    · rw [List.getElem?_append_left (by rw [vb_length]; omega)] at h
      exact .inr (.inl ⟨by omega, h2, h⟩)
    · rw [List.getElem?_append_right (by rw [vb_length]; omega), vb_length, hm] at h
      have hj : j - 64 - 64 < 1 := (List.getElem?_eq_some_iff.1 h).1
      obtain rfl : j = 128 := by omega
      simp at h
      exact .inr (.inr ⟨rfl, h.symm⟩)
theorem secC_mk {r m : List Nat} {l : Bool} (hr : r.length = 64) (hm : m.length = 64) (j : Nat) (v : Value) (h : (j < 64 ∧ (vb r)[j]? = some v) ∨ (64 ≤ j ∧ j < 128 ∧ (vb m)[j - 64]? = some v) ∨ (j = 128 ∧ v = .bool l)) : (secC r m l)[j]? = some v := by
  unfold secC
  rcases h with ⟨h1, h⟩ | ⟨h1, h2, h⟩ | ⟨rfl, rfl⟩
  · rw [List.getElem?_append_left (by rw [vb_length]; omega)]
    exact h
  · rw [List.getElem?_append_right (by rw [vb_length]; omega), vb_length, hr, List.getElem?_append_left (by rw [vb_length]; omega)]
    exact h
  · rw [List.getElem?_append_right (by rw [vb_length]; omega), vb_length, hr, List.getElem?_append_right (by rw [vb_length]; omega), vb_length, hm]
    rfl
theorem lose_eq (m : DM) (s : Int) : m.lose s = if m.has s = false then (2, m) else (0, { m with lost := m.lost.set s.toNat true }) := rfl
set_option maxHeartbeats 1600000 in
theorem lose_of {w : World} {d g : Nat} {pv : Value} {m : DM} (h : PD w d g pv m) (s : Int) :
    Calls Tryz.prog 113 #[.pointer (some ⟨d, 0, none⟩), .int .i64 s] w fun e w' => e = .returned (.int .i64 (m.lose s).1) ∧ PD w' d g pv (m.lose s).2 ∧ Mod (fun i => i = g) w w' := by
  have hx := (Ext.refl w).alloc (.cells #[.int .i64 s] 3)
  have h1 := h.ext hx
  have hz := ZsAt.one w s 3
  have hk := known_of h1 _ 1 1 [s] hz
  rw [known_one] at hk
  have HX := Lib.hid hx
  have H1 := Lib.hid h1
  have HP := Lib.hid (lose_eq m s)
  have HO := Lib.hid (DM.lose_ok h.ok s)
  clear h h1 hx hz
  by_cases hh : m.has s = false
  · have HP1 : Hid (m.lose s = (2, m)) := Lib.hid (by rw [HP.out, if_pos hh])
    rw [if_pos hh] at hk
    have HK := Lib.hid hk
    clear hk hh HP
    go_enter Tryz.func113, Tryz.ntmps113
    go_wp2_with fail
    refine HK.out.mono ?_
    rintro e w1 ⟨rfl, rfl⟩
    go_wp2_with fail
    go_ret
    exact ⟨by rw [HP1.out]; rfl, by rw [HP1.out]; exact H1.out, Mod.of_ext HX.out⟩
  · rw [if_neg hh] at hk
    have HK := Lib.hid hk
    have HP1 : Hid (m.lose s = (0, { m with lost := m.lost.set s.toNat true })) := Lib.hid (by rw [HP.out, if_neg hh])
    have hhas : m.has s = true := by simpa using hh
    obtain ⟨hs0, hs1⟩ := DM.has_iff.1 hhas
    obtain ⟨k, rfl⟩ := Int.eq_ofNat_of_zero_le hs0
    have hks : k < m.size := by omega
    rw [Int.toNat_natCast] at HP1
    clear hk hh hhas HP
    go_enter Tryz.func113, Tryz.ntmps113
    go_wp2_with fail
    refine HK.out.mono ?_
    rintro e w1 ⟨rfl, rfl⟩
    obtain ⟨⟨c0, c1, c2, c3, c4⟩, f0, f1, f2, f3, f4⟩ := H1.out.cells
    generalize w.alloc (.cells #[.int .i64 (k : Int)] 3) = w1 at *
    obtain ⟨cur, hg, hsz, hcur⟩ := H1.out.med
    have hle : (k + 1) * 129 ≤ m.size * 129 := Nat.mul_le_mul_right _ hks
    have hth := (there_of hg (k * 129 + 128) 1 (by omega)) 0 (by omega)
    rw [Nat.add_zero] at hth
    obtain ⟨u, hu⟩ := Option.isSome_iff_exists.1 hth.1
    have hfr := hth.2
    clear c0 c1 c2 c4 f0 f1 f2 f3 f4 hg hsz hcur hle hth
    go_wp2_with fail
    go_ret
    have hm : Mod (fun i => i = g) w1 (w1.setCells g (k * 129 + 128) [.bool true]) := mod_setCells _ _ _ _
    have hrl := (H1.out.ok.rest_at hks).1
    have hml := (H1.out.ok.meant_at hks).1
    refine ⟨by rw [HP1.out]; rfl, ?_, (Mod.of_ext HX.out).then hm⟩
    have hO := HO.out
    rw [HP1.out] at hO ⊢
    have hsec : ∀ i, ({ m with lost := m.lost.set k true } : DM).sec i = if i = k then secC (m.rest.getD k []) (m.meant.getD k []) true else m.sec i := fun i => by
      unfold DM.sec
      by_cases e : k = i
      · subst e
        rw [if_pos rfl]
        simp only
        rw [getD_set (show k < m.lost.length by rw [H1.out.ok.lost]; exact hks), if_pos rfl]
      · rw [if_neg fun h => e h.symm]
        simp only
        rw [getD_set_ne e]
    refine H1.out.sec_turned hm _ hO rfl ?_ rfl rfl rfl rfl
    refine H1.out.med.set (m' := { m with lost := m.lost.set k true }) hks 128 [.bool true] rfl (by simp) (fun i hi hne => by rw [hsec, if_neg hne]) (fun i hi => by
      rw [hsec]
      split
      · exact secC_len hrl hml
      · exact H1.out.ok.sec_len hi) (fun j v hv => ?_)
    rw [hsec, if_pos rfl] at hv
    rcases secC_get hrl hml j v hv with ⟨a1, a2⟩ | ⟨a1, a2, a3⟩ | ⟨rfl, rfl⟩
    · rw [if_neg (by simp; omega)]
      exact secC_mk hrl hml j v (.inl ⟨a1, a2⟩)
    · rw [if_neg (by simp; omega)]
      exact secC_mk hrl hml j v (.inr (.inl ⟨a1, a2, a3⟩))
    · rw [if_pos (by simp)]
      rfl
end
section
open Go Go.RowKit
theorem ZsAt.two (w : World) (a b : Int) (t : TypeId) : ZsAt (w.alloc (.cells #[.int .i64 a, .int .i64 b] t)) (some ⟨w.heap.size, 0, none⟩) 2 [a, b] := by
  refine ⟨rfl, by omega, fun _ => ⟨_, rfl, fun j z hz => ?_⟩⟩
  rw [World.cell?_alloc_new]
  have hj : j < 2 := (List.getElem?_eq_some_iff.1 hz).1
  match j, hj with
  | 0, _ => simp at hz; subst hz; rfl
  | 1, _ => simp at hz; subst hz; rfl
theorem agg_med (w : World) : (isAgg 207).run Tryz.prog w = .ok true w := by
  unfold isAgg
  rw [Sem.run_bind, run_underlying Tryz.underlying207 w]
  rfl
theorem agg_wri (w : World) : (isAgg 191).run Tryz.prog w = .ok true w := by
  unfold isAgg
  rw [Sem.run_bind, run_underlying Tryz.underlying191 w]
  rfl
theorem size_med : ∃ N, N = 129 ∧ ∀ w, (sizeOf 207).run Tryz.prog w = .ok N w := ⟨129, rfl, fun w => by
  have h := sz_med
  cases hq : Tryz.prog.info? 207 with
  | none => simp [hq] at h
  | some i => simp [hq] at h; simp [sizeOf, typeInfo, hq, h]⟩
theorem size_wri : ∃ N, N = 65 ∧ ∀ w, (sizeOf 191).run Tryz.prog w = .ok N w := ⟨65, rfl, fun w => by
  have h := sz_wri
  cases hq : Tryz.prog.info? 191 with
  | none => simp [hq] at h
  | some i => simp [hq] at h; simp [sizeOf, typeInfo, hq, h]⟩
theorem lcf (w : World) (g o N : Nat) (cs : List Value) (hl : cs.length = N) (h : w.rangeAt g o cs) : (loadCellsFrom ⟨g, o, none⟩ 0 N #[]).run Tryz.prog w = .ok cs.toArray w := by
  subst hl
  exact run_loadCells_list (P := Tryz.prog) w ⟨g, o, none⟩ cs (fun j v hv => by rw [Addr.add_mid]; exact h j v hv)
theorem scs (w : World) (t : TypeId) (c : Array Value) (cs : List Value) (hl : c.size = cs.length) (h1 : ∀ v ∈ cs, v.oneCell' = true) : (storeCells ⟨w.heap.size, 0, none⟩ cs 0).run Tryz.prog (w.alloc (.cells c t)) = .ok () (w.alloc (.cells cs.toArray t)) := by
  have h := run_storeCells_cells (P := Tryz.prog) w.heap.size 0 cs 0 (w.alloc (.cells c t)) (fun j hj => by
    rw [World.cell?_alloc_new, Array.getElem?_eq_getElem (by omega)]; rfl) (fun j hj => World.frozen?_alloc_new _ _ _ _) h1
  rw [h]
  congr 1
  have e : ((w.alloc (.cells c t)).setCells w.heap.size (0 + 0) cs) = w.alloc (.cells cs.toArray t) := by
    have key : ∀ (vs : List Value) (o : Nat) (c : Array Value), (w.alloc (.cells c t)).setCells w.heap.size o vs = w.alloc (.cells (vs.zipIdx o |>.foldl (fun a (p : Value × Nat) => a.setIfInBounds p.2 p.1) c) t) := by
      intro vs
      induction vs with
      | nil => intro o c; rfl
      | cons v r ih =>
        intro o c
        rw [World.setCells, World.setCell_alloc_new, ih]
        rfl
    rw [key]
    have := fold_put cs [] c.toList [] (by rw [Array.length_toList]; exact hl)
    simp only [List.length_nil, List.nil_append, List.append_nil] at this
    rw [show (0 + 0) = 0 from rfl]
    congr 2
  exact e
end
end Go.Proofs.YtgcinagkbdcgiaaGreatDoor
