/-
  A list of structs is appended onto a row of the call's own, as an operation of a region that does not draw.
-/
import Derived.Test.YtmnldkfkcfnkdaaLsOwn
import Derived.OwnWalk
namespace Go.Proofs.Ytmnldkfkcfnkdaa
open Go Go.RowKit

theorem wpList_append_ls {α : Type} {cells : α → List Value} {N : Nat} (hN : ∀ a, (cells a).length = N) (h0 : 0 < N) (h1 : ∀ a, ∀ u ∈ cells a, u.oneCell' = true) {P : Program} {w : World} {ops : Array Oper} {rest : List Oper} {o : Oper} {a : Act} {Q : Exit → Act → World → Prop} (hgd : o.guard = none) (s x : Operand) (t : TypeId)
    (ho : o.op = .call { callee := .builtin .append, args := #[s, x], argTypes := #[t, t] })
    (base : Nat) (e : TypeId) (i : TypeInfo) (z : Value) (bytes : Nat) (ht : P.underlying t = some (.slice e)) (hi : P.info? e = some i) (hz : i.zero = some z) (hsize : i.size = N) (hby : i.bytes = bytes) (hzs : z.cells.size = N)
    (v : Value) (n : Nat) (xs : List Value) (hs : a.eval s = v) (hown : w.ownsRow base e N v n xs) (B : Nat) (A : Option Addr) (m c : Nat) (l : List α) (hx : a.eval x = .slice A m c) (hl : Ls cells N w B A m c l)
    (h63 : n + m ≤ maxLen) (hbytes : (n + m) * bytes ≤ 140737488355328) (hbase : base ≤ w.heap.size)
    (h : ∀ v' w', w'.ownsRow base e N v' (n + m) (xs ++ l.flatMap cells) → w.grownBy w' v.ownBlock → wpList P ops Q rest (a.put o.dst v') w') : wpList P ops Q (o :: rest) a w := by
  cases A with
  | none =>
    have hc := hl.nil_ rfl
    have hm : m = 0 := by have := hl.cap; omega
    subst hc hm
    have hl0 : l = [] := List.eq_nil_of_length_eq_zero hl.len
    subst hl0
    refine wpList_append_own_none hgd s x t ho base e i N ht hi v n xs hs hown hx ?_
    exact h v w (by simpa using hown) (World.grownBy.refl _ _)
  | some ad =>
    exact wpList_append_own w hgd s x t ho base e i z N bytes ht hi hz hsize hby hzs h0 v n xs hs hown ad m c (l.flatMap cells) hx (by rw [flat_len hN, hl.len]) (hl.news hN h0) (fun u hu => by
      obtain ⟨b, _, hb⟩ := List.mem_flatMap.1 hu
      exact h1 b u hb) h63 hbytes hbase fun v' w' h2 h3 _ => h v' w' h2 h3
theorem Bal.one (a : Bal) : ∀ u ∈ Bal.cells a, u.oneCell' = true := by
  intro u hu
  simp only [Bal.cells, List.mem_cons, List.not_mem_nil, or_false] at hu
  rcases hu with rfl | rfl <;> rfl
end Go.Proofs.Ytmnldkfkcfnkdaa
