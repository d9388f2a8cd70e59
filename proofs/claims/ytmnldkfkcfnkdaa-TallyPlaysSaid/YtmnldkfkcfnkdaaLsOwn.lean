/-
  Lists of structs: one that came in is appended onto a row of the call's own; what a row of the call's own holds, as a list.
-/
import Derived.Test.YtmnldkfkcfnkdaaULists
import Derived.Test.YtmnldkfkcfnkdaaKMod
import Derived.Laws.AppendOwnNone
import Derived.Laws.AppendOwn
namespace Go.Proofs.Ytmnldkfkcfnkdaa
set_option maxRecDepth 100000
open Go Go.RowKit

theorem flat_get {α : Type} {cells : α → List Value} {N : Nat} (hN : ∀ a, (cells a).length = N) (h0 : 0 < N) : ∀ (l : List α) (k j : Nat), j < N → (l.flatMap cells)[k * N + j]? = (l[k]?).bind fun a => (cells a)[j]?
  | [], k, j, _ => by simp
  | a :: l, 0, j, hj => by
    rw [List.flatMap_cons, List.getElem?_append_left (by rw [hN]; omega)]
    simp
  | a :: l, k + 1, j, hj => by
    rw [List.flatMap_cons, List.getElem?_append_right (by rw [hN, Nat.succ_mul]; omega), hN, show (k + 1) * N + j - N = k * N + j by rw [Nat.succ_mul]; omega, flat_get hN h0 l k j hj]
    simp
theorem flat_len {α : Type} {cells : α → List Value} {N : Nat} (hN : ∀ a, (cells a).length = N) : ∀ l : List α, (l.flatMap cells).length = l.length * N
  | [] => by simp
  | a :: l => by rw [List.flatMap_cons, List.length_append, hN, flat_len hN l, List.length_cons, Nat.succ_mul]; omega
/-- The cells of a list that came in, one behind the other. -/
theorem Ls.news {α : Type} {cells : α → List Value} {N : Nat} {w : World} {B : Nat} {ad : Addr} {n c : Nat} {l : List α} (hN : ∀ a, (cells a).length = N) (h0 : 0 < N) (h : Ls cells N w B (some ad) n c l) : ∀ j u, (l.flatMap cells)[j]? = some u → w.cell? (ad.add j) = some u := by
  intro j u hu
  have hj : j < (l.flatMap cells).length := (List.getElem?_eq_some_iff.1 hu).1
  rw [flat_len hN, h.len] at hj
  have hn : 0 < n := by
    rcases Nat.eq_zero_or_pos n with e | e
    · subst e; omega
    · exact e
  obtain ⟨g, o, hA, _, hc⟩ := h.rd hn
  injection hA with hA
  subst hA
  have e : j / N * N + j % N = j := by rw [Nat.mul_comm]; exact Nat.div_add_mod j N
  rw [← e, flat_get hN h0 l _ _ (Nat.mod_lt _ h0)] at hu
  obtain ⟨a, ha, hv⟩ := Option.bind_eq_some_iff.1 hu
  have := hc _ a ha _ u hv
  rw [e] at this
  rw [Addr.add_lit]
  exact this
/-- A row of the call's own, as a list. -/
theorem Ls.of_own {α : Type} {cells : α → List Value} {N : Nat} {w : World} {B : Nat} {e : TypeId} {v : Value} {l : List α} (hN : ∀ a, (cells a).length = N) (h0 : 0 < N) (h : w.ownsRow B e N v l.length (l.flatMap cells)) : ∃ A c, v = .slice A l.length c ∧ Ls cells N w w.heap.size A l.length c l := by
  rcases h.2 with ⟨rfl, hz⟩ | ⟨g, cap, cur, rfl, hB, hg, hn, hm, hs, ht⟩
  · have hl : l = [] := List.length_eq_zero_iff.1 hz
    subst hl
    exact ⟨none, 0, rfl, ⟨rfl, Nat.le_refl _, by omega, fun h => absurd h (by simp), fun _ => rfl⟩⟩
  · refine ⟨some ⟨g, 0, none⟩, cap, rfl, ⟨rfl, hn, by unfold maxLen at hm; exact hm, fun _ => ⟨g, 0, rfl, (Array.getElem?_eq_some_iff.1 hg).1, fun j a ha k x hx => ?_⟩, fun e => by cases e⟩⟩
    have hk : k < N := by have := (List.getElem?_eq_some_iff.1 hx).1; rw [hN] at this; exact this
    have hjl : j < l.length := (List.getElem?_eq_some_iff.1 ha).1
    have hf := flat_get hN h0 l j k hk
    rw [ha] at hf
    have hx2 : (l.flatMap cells)[j * N + k]? = some x := by rw [hf]; exact hx
    have hlt : j * N + k < l.length * N := by
      have : (j + 1) * N ≤ l.length * N := Nat.mul_le_mul_right _ hjl
      rw [Nat.succ_mul] at this
      omega
    rw [Nat.zero_add, cell_of_row w g _ _ _ _ hg, ← hx2, ← ht, List.getElem?_take_of_lt hlt, Array.getElem?_toList]
theorem row_grown {w w' : World} {row : Option Nat} {k : Nat} {o : Obj} (h : w.heap[k]? = some o) (hg : w.grownBy w' row) (hne : some k ≠ row) : w'.heap[k]? = some o := (hg.block k (Array.getElem?_eq_some_iff.1 h).1 hne).trans h
theorem ownsRow_extL {w w' : World} {b e sz n : Nat} {v : Value} {xs : List Value} (h : w.ownsRow b e sz v n xs) (k : Ext w w') : w'.ownsRow b e sz v n xs := own_mod h (Mod.of_ext (F := fun _ => False) k) fun _ _ hf => hf
theorem Ls.of_row {α : Type} {cells : α → List Value} {N : Nat} {w : World} {B n : Nat} {e : TypeId} {v : Value} {l : List α} (hN : ∀ a, (cells a).length = N) (h0 : 0 < N) (hl : l.length = n) (h : w.ownsRow B e N v n (l.flatMap cells)) : ∃ A c, v = .slice A n c ∧ Ls cells N w w.heap.size A n c l := by
  subst hl
  exact Ls.of_own hN h0 h
/-- One element that lies in a block of its own. -/
theorem ls_one {α : Type} {cells : α → List Value} {N : Nat} {w : World} {b : Nat} {cs : Array Value} {t : TypeId} (a : α) (ha : cells a = cs.toList) (h : w.heap[b]? = some (.cells cs t (0, 0))) : Ls cells N w w.heap.size (some ⟨b, 0, none⟩) 1 1 [a] := by
  refine ⟨rfl, Nat.le_refl _, by omega, fun _ => ⟨b, 0, rfl, (Array.getElem?_eq_some_iff.1 h).1, fun j x hx k v hv => ?_⟩, fun e => by cases e⟩
  cases j with
  | zero =>
    simp only [List.getElem?_cons_zero, Option.some.injEq] at hx
    subst hx
    rw [ha, Array.getElem?_toList] at hv
    rw [Nat.zero_mul, Nat.zero_add, Nat.zero_add, cell_of_row w b k _ _ _ h, hv]
  | succ j => simp at hx
/-- A list that came in, nil or not, is appended onto a row of the call's own. -/
theorem wp_append_ls {α : Type} {cells : α → List Value} {N : Nat} (hN : ∀ a, (cells a).length = N) (h0 : 0 < N) (h1 : ∀ a, ∀ u ∈ cells a, u.oneCell' = true) {P : Program} {w : World} {o : Oper} {a : Act} {K : Act → World → Prop} {Q : Exit → Act → World → Prop} (s x : Operand) (t : TypeId)
    (ho : o.op = .call { callee := .builtin .append, args := #[s, x], argTypes := #[t, t] })
    (base : Nat) (e : TypeId) (i : TypeInfo) (z : Value) (bytes : Nat) (ht : P.underlying t = some (.slice e)) (hi : P.info? e = some i) (hz : i.zero = some z) (hsize : i.size = N) (hby : i.bytes = bytes) (hzs : z.cells.size = N)
    (v : Value) (n : Nat) (xs : List Value) (hs : a.eval s = v) (hown : w.ownsRow base e N v n xs) (B : Nat) (A : Option Addr) (m c : Nat) (l : List α) (hx : a.eval x = .slice A m c) (hl : Ls cells N w B A m c l)
    (h63 : n + m ≤ maxLen) (hbytes : (n + m) * bytes ≤ 140737488355328) (hbase : base ≤ w.heap.size)
    (h : ∀ v' w', w'.ownsRow base e N v' (n + m) (xs ++ l.flatMap cells) → w.grownBy w' v.ownBlock → K (a.put o.dst v') w') : o.wp P a w K Q := by
  cases A with
  | none =>
    have hc := hl.nil_ rfl
    have hm : m = 0 := by have := hl.cap; omega
    subst hc hm
    have hl0 : l = [] := List.eq_nil_of_length_eq_zero hl.len
    subst hl0
    have hrun := run_append_owned_none (P := P) (w := w) base t o.type e i N ht hi v n xs hown
    unfold Oper.wp
    simp [execOp, ho, resolve, invoke, builtin, hs, hx, hrun, Result.andThen]
    exact h v w (by simpa using hown) (World.grownBy.refl _ _)
  | some ad =>
    exact wp_append_own w s x t ho base e i z N bytes ht hi hz hsize hby hzs h0 v n xs hs hown ad m c (l.flatMap cells) hx (by rw [flat_len hN, hl.len]) (hl.news hN h0) (fun u hu => by
      obtain ⟨b, _, hb⟩ := List.mem_flatMap.1 hu
      exact h1 b u hb) h63 hbytes hbase fun v' w' h2 h3 _ => h v' w' h2 h3
end Go.Proofs.Ytmnldkfkcfnkdaa
