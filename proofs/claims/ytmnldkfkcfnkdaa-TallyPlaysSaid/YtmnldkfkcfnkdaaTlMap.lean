/-
  A tally's map in memory: what is looked up, stored, how many it holds, what is struck by DeleteFunc.
-/
import Derived.Test.YtmnldkfkcfnkdaaTlSpec
import Derived.Test.YtmnldkfkcfnkdaaKMod
import Derived.Test.YtmnldkfkcfnkdaaProg
import Derived.Maps.OwnSet
import Derived.Maps.Keyed
import Derived.Maps.Ext
import Derived.Lib.SlMapFilter
import Derived.WalkArith
namespace Go.Proofs.Ytmnldkfkcfnkdaa
open Go Go.RowKit Go.Maps

theorem lawT : Keyed Try.prog 3 := int_keyed Try.underlying3
theorem zeroT (w : World) : (zeroValue 45).run Try.prog w = .ok (.int .u8 0) w := by kernel_rfl
noncomputable def RT : Value → Option (DataW Value × List MemPlace) := plainElem Try.prog 45
theorem rT {s : Nat} (hs : s < 256) : RT (.int .u8 (s : Int)) = some (.lit (.int .u8 (s : Int)), []) := plainElem_int Try.underlying45 (WalkArith.wf_u8 (by omega))
def HoldsT (es : List (Lit × DataW Value)) (L : List (Int × Nat)) : Prop := ∀ x : Lit × DataW Value, x ∈ es ↔ ∃ p ∈ L, x = (.int .i64 p.1, .lit (.int .u8 (p.2 : Int)))
structure MapT (w : World) (bm : Nat) (L : List (Int × Nat)) : Prop where
  own : ∃ es, w.ownsMap Try.prog 3 RT bm 64 (.map es) ∧ HoldsT es L
theorem keyT_is (k : Int) : WideAt.IsKeyLit (.int .i64 k) := by
  first | trivial | (simp [WideAt.IsKeyLit])
theorem lit_neT {j k : Int} (h : j ≠ k) : (Lit.int .i64 j) ≠ (Lit.int .i64 k) := fun e => h (by injection e)
theorem MapT.new (w : World) : MapT (w.alloc (.map #[] 0)) w.heap.size [] :=
  ⟨_, (World.ownsMap_made w Try.prog 3 RT).mono (Nat.zero_le _), fun x => ⟨(fun h => by cases h), fun ⟨p, hp, _⟩ => by cases hp⟩⟩
section
variable {w w' : World} {bm : Nat} {L : List (Int × Nat)}
theorem MapT.lt (h : MapT w bm L) : bm < w.heap.size := by
  obtain ⟨es, ho, _⟩ := h.own
  exact ho.lt
theorem MapT.mod {F : Nat → Prop} (h : MapT w bm L) (hm : Mod F w w') (hF : ¬ F bm) : MapT w' bm L := by
  obtain ⟨D, ⟨es, clock, hb, r⟩, hd⟩ := h.own
  exact ⟨D, ⟨es, clock, heap_mod hb hm hF, r⟩, hd⟩
theorem MapT.ext (h : MapT w bm L) (hx : Ext w w') : MapT w' bm L := h.mod (F := fun _ => False) (Mod.of_ext hx) fun hf => hf
theorem MapT.at_ {es : List (Lit × DataW Value)} (hk : OkT L) (ho : w.ownsMap Try.prog 3 RT bm 64 (.map es)) (hd : HoldsT es L) (k : Int) :
    Maps.has (DataW.map es) (.int .i64 k) = decide (lookT L k ≠ 0) ∧ ∀ zd, (DataW.map es).atKey (.int .i64 k) zd = if lookT L k = 0 then zd else .lit (.int .u8 (lookT L k : Int)) := by
  obtain ⟨es2, e, hap⟩ := ho.tidy lawT
  injection e with e
  subst e
  by_cases hz : lookT L k = 0
  · have hh : Maps.has (DataW.map es) (.int .i64 k) = false := by
      rw [has_eq, List.any_eq_false]
      intro x hx hs
      obtain ⟨p, hp, rfl⟩ := (hd x).1 hx
      have e := WideAt.sameKey_eq hs
      injection e with _ e
      have := lookT_of_mem hk.nod (k := k) (s := p.2) (by rw [← e]; exact hp)
      have h2 := hk.rng p hp
      omega
    exact ⟨by rw [hh]; simp [hz], fun zd => by rw [if_pos hz]; exact atKey_of_not_has hh zd⟩
  · have hm : ((.int .i64 k, .lit (.int .u8 (lookT L k : Int))) : Lit × DataW Value) ∈ es := (hd _).2 ⟨_, lookT_mem hz, rfl⟩
    refine ⟨?_, fun zd => ?_⟩
    · rw [has_eq, decide_eq_true hz]
      exact List.any_eq_true.2 ⟨_, hm, WideAt.sameKey_self (keyT_is k)⟩
    · rw [if_neg hz]
      exact WideAt.atKey_mem zd (keyT_is k) hap hm
theorem rT_inv {v : Value} {d : DataW Value} {ps : List MemPlace} {s : Nat} (h : RT v = some (d, ps)) (e : d = .lit (.int .u8 (s : Int))) : v = .int .u8 (s : Int) := by
  obtain ⟨c, rfl, hc, _⟩ := plainElem_int_inv Try.underlying45 h
  injection hc with hc
  rw [hc] at e
  injection e with e
  injection e with _ e
  rw [e]
theorem MapT.looks (h : MapT w bm L) (hk : OkT L) {k : Int} (hw : (Lit.int .i64 k).wf = true) :
    (Instr.lookup 36 (.map (some bm)) (.int .i64 k) true).run Try.prog w = .ok (.tuple #[.int .u8 (lookT L k : Int), .bool (decide (lookT L k ≠ 0))]) w := by
  obtain ⟨es, ho, hd⟩ := h.own
  obtain ⟨h1, h2⟩ := MapT.at_ hk ho hd k
  obtain ⟨v, ps, hrun, hR⟩ := ho.look_ok lawT Try.underlying36 (zeroT w) (rT (s := 0) (by omega)) (keyOf_int_mk Try.underlying3 hw)
  rw [hrun, h1]
  rw [h2] at hR
  have := rT_inv (s := lookT L k) hR (by split; · rename_i e; rw [e]
                                         · rfl)
  rw [this]
theorem MapT.look (h : MapT w bm L) (hk : OkT L) {k : Int} (hw : (Lit.int .i64 k).wf = true) :
    (Instr.lookup 36 (.map (some bm)) (.int .i64 k) false).run Try.prog w = .ok (.int .u8 (lookT L k : Int)) w := by
  obtain ⟨es, ho, hd⟩ := h.own
  obtain ⟨h1, h2⟩ := MapT.at_ hk ho hd k
  obtain ⟨v, ps, hrun, hR⟩ := ho.lookup lawT Try.underlying36 (zeroT w) (rT (s := 0) (by omega)) (keyOf_int_mk Try.underlying3 hw)
  rw [hrun]
  rw [h2] at hR
  have := rT_inv (s := lookT L k) hR (by split; · rename_i e; rw [e]
                                         · rfl)
  rw [this]
theorem MapT.size_ {es : List (Lit × DataW Value)} (hk : OkT L) (ho : w.ownsMap Try.prog 3 RT bm 64 (.map es)) (hd : HoldsT es L) : es.length = L.length := by
  obtain ⟨es2, e, hap⟩ := ho.tidy lawT
  injection e with e
  subst e
  have hp : es.Perm (L.map fun p : Int × Nat => ((Lit.int .i64 p.1, DataW.lit (.int .u8 (p.2 : Int))) : Lit × DataW Value)) := by
    refine (List.perm_ext_iff_of_nodup ?_ ?_).2 fun x => ?_
    · exact hap.imp fun h e => h (by rw [e])
    · refine List.Pairwise.map _ (R := fun a b : Int × Nat => a.1 ≠ b.1) (fun a b hab e => hab ?_) ?_
      · injection e with e _
        injection e
      · have := hk.nod
        exact List.pairwise_map.1 this
    · rw [hd x, List.mem_map]
      exact ⟨fun ⟨p, h1, h2⟩ => ⟨p, h1, h2.symm⟩, fun ⟨p, h1, h2⟩ => ⟨p, h1, h2.symm⟩⟩
  rw [hp.length_eq, List.length_map]
theorem MapT.len (h : MapT w bm L) (hk : OkT L) (ty : TypeId) : (Builtin.len_ #[36] ty #[.map (some bm)]).run Try.prog w = .ok (.int .i64 (L.length : Int)) w := by
  obtain ⟨es, ho, hd⟩ := h.own
  rw [ho.len Try.underlying36 ty, size_eq, MapT.size_ hk ho hd]
/-- Behind a store the bound is as it was: there is room. -/
theorem own_room {es : List (Lit × DataW Value)} {n m : Nat} (ho : w.ownsMap Try.prog 3 RT bm n (.map es)) (hm : es.length ≤ m) : w.ownsMap Try.prog 3 RT bm m (.map es) := by
  obtain ⟨xs, clock, hb, F, hs, e⟩ := ho
  refine ⟨xs, clock, hb, F, ?_, e⟩
  injection e with e
  have h2 := congrArg List.length e
  rw [length_read xs] at h2
  omega
theorem MapT.store (h : MapT w bm L) (hk : OkT L) {k : Int} {s : Nat} (hw : (Lit.int .i64 k).wf = true) (hs : s < 256) (hok : OkT (setT L k s)) :
    ∃ w', (Instr.mapUpdate 36 (.map (some bm)) (.int .i64 k) (.int .u8 (s : Int))).run Try.prog w = .ok () w' ∧ MapT w' bm (setT L k s) ∧ w.mapTurned w' bm := by
  obtain ⟨es, ho, hd⟩ := h.own
  obtain ⟨w', hrun, ho2, ht⟩ := ho.store lawT Try.underlying36 (by unfold maxLen; omega) (keyOf_int_mk Try.underlying3 hw) (val := .int .u8 (s : Int)) (rT hs)
  obtain ⟨es2, he2⟩ : ∃ es2, DataW.insert (.int .i64 k, .lit (.int .u8 (s : Int))) (es.filter fun p => !p.1.sameKey (.int .i64 k)) = es2 := ⟨_, rfl⟩
  have ho3 : w'.ownsMap Try.prog 3 RT bm 65 (.map es2) := by rw [← he2]; exact ho2
  have hd2 : HoldsT es2 (setT L k s) := by
    intro x
    rw [← he2, ChangeMaps.mem_insert_iff, List.mem_filter, hd x]
    constructor
    · rintro (e | ⟨⟨p, hp, rfl⟩, hn⟩)
      · exact ⟨(k, s), (mem_set hk.nod).2 (.inl rfl), e⟩
      · refine ⟨p, (mem_set hk.nod).2 (.inr ⟨hp, fun e => ?_⟩), rfl⟩
        rw [e, WideAt.sameKey_self (keyT_is k)] at hn
        cases hn
    · rintro ⟨p, hp, rfl⟩
      rcases (mem_set hk.nod).1 hp with rfl | ⟨hp, hne⟩
      · exact .inl rfl
      · exact .inr ⟨⟨p, hp, rfl⟩, by rw [sameKey_ne (lit_neT hne)]; rfl⟩
  have hlen : es2.length ≤ 64 := by
    obtain ⟨es3, e, hap⟩ := ho3.tidy lawT
    injection e with e
    subst e
    letI : DecidableEq Lit := fun a b => Classical.propDecidable (a = b)
    have hp := nodup_le (l := es2.map Prod.fst) (m := (setT L k s).map fun p : Int × Nat => Lit.int .i64 p.1) (List.Pairwise.map _ (fun _ _ h => h) hap) (fun a ha => by
      obtain ⟨x, hx, rfl⟩ := List.mem_map.1 ha
      obtain ⟨p, hp, rfl⟩ := (hd2 x).1 hx
      exact List.mem_map.2 ⟨p, hp, rfl⟩)
    rw [List.length_map, List.length_map] at hp
    exact Nat.le_trans hp hok.most
  exact ⟨w', hrun, ⟨es2, own_room ho3 hlen, hd2⟩, ht⟩
theorem turned_modT {b : Nat} (h : w.mapTurned w' b) : Mod (fun k => k = b) w w' := by
  have hg := h.grown
  exact ⟨hg.os, hg.tape, hg.output, hg.size, fun k hk hf => hg.block k hk (fun e => hf (by injection e))⟩
end
def pdT (i : Int) : Lit → DataW Value → Bool
  | .int _ k, _ => decide (k ≤ i)
  | _, _ => false
theorem holds_drop {es : List (Lit × DataW Value)} {L : List (Int × Nat)} (h : HoldsT es L) (i : Int) : HoldsT (es.filter fun p => !pdT i p.1 p.2) (dropT L i) := by
  intro x
  rw [List.mem_filter, h x]
  constructor
  · rintro ⟨⟨p, hp, rfl⟩, hn⟩
    refine ⟨p, List.mem_filter.2 ⟨hp, ?_⟩, rfl⟩
    simp [pdT] at hn
    exact decide_eq_true (by omega)
  · rintro ⟨p, hp, rfl⟩
    obtain ⟨hp, hn⟩ := List.mem_filter.1 hp
    have hn := of_decide_eq_true hn
    refine ⟨⟨p, hp, rfl⟩, ?_⟩
    simp [pdT]
    omega
end Go.Proofs.Ytmnldkfkcfnkdaa
