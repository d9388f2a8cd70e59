/-
  Append of a slice that came in, nil or not, onto a row of the call's own.
-/
import Derived.Test.YtnlappoocffcpaaDoorMem
import Derived.Test.YtnlappoocffcpaaDoorCopy
namespace Go.Proofs.YtnlappoocffcpaaDoor
set_option maxRecDepth 100000
open Go Go.RowKit

theorem wpList_append_by {P : Program} {w : World} {ops : Array Oper} {rest : List Oper} {o : Oper} {a : Act} {Q : Exit → Act → World → Prop} (hgd : o.guard = none) (s x : Operand) (t : TypeId)
    (ho : o.op = .call { callee := .builtin .append, args := #[s, x], argTypes := #[t, t] })
    (base : Nat) (e : TypeId) (i : TypeInfo) (ht : P.underlying t = some (.slice e)) (hi : P.info? e = some i) (hz : i.zero = some (.int .u8 0))
    (hsize : i.size = 1) (hby : i.bytes = 1)
    (v : Value) (n : Nat) (xs : List Value) (hs : a.eval s = v) (hown : w.ownsRow base e 1 v n xs)
    (A : Option Addr) (m c : Nat) (l : List Nat) (hx : a.eval x = .slice A m c) (hb : By w A m c l)
    (hbytes : n + m ≤ 140737488355328) (hbase : base ≤ w.heap.size)
    (h : ∀ v' w', w'.ownsRow base e 1 v' (n + m) (xs ++ vb l) → w.grownBy w' v.ownBlock → wpList P ops Q rest (a.put o.dst v') w') : wpList P ops Q (o :: rest) a w := by
  cases A with
  | none =>
    obtain rfl := Bs.nil_ hb rfl
    have hm : m = 0 := by have := hb.cap; omega
    subst hm
    have hl : l = [] := List.eq_nil_of_length_eq_zero hb.len
    subst hl
    refine wpList_append_own_none hgd s x t ho base e i 1 ht hi v n xs hs hown hx ?_
    exact h v w (by simpa [vb] using hown) (World.grownBy.refl _ _)
  | some ad =>
    refine wpList_append_own w hgd s x t ho base e i (.int .u8 0) 1 1 ht hi hz hsize hby rfl (by decide) v n xs hs hown ad m c (vb l) hx (by rw [vb_length, hb.len]; omega) ?_ (vb_one l) (by unfold maxLen; omega) (by omega) hbase fun v' w' h1 h2 _ => h v' w' h1 h2
    intro j u hj
    rw [vb_get] at hj
    obtain ⟨y, hy, rfl⟩ := Option.map_eq_some_iff.1 hj
    have hjl : j < l.length := (List.getElem?_eq_some_iff.1 hy).1
    obtain ⟨g, o', z, hA, _, hz', _, hc⟩ := hb.rd.at_ hjl
    injection hA with hA
    subst hA
    rw [hy] at hz'
    injection hz' with hz'
    subst hz'
    rw [Addr.add_lit, hc]
/-- Behind an append onto a row that the call has made since w0. -/
theorem app_step {w0 w1 w2 : World} {v v2 : Value} {e n m : Nat} {xs : List Value} {l1 l2 : List Nat} (hx : Ext w0 w1) (hown : w1.ownsRow w0.heap.size e 1 v n xs) (hg : w1.grownBy w2 v.ownBlock)
    (h2 : w2.ownsRow w0.heap.size e 1 v2 m (vb l1 ++ vb l2)) (hb1 : ∀ b ∈ l1, b < 256) (hb2 : ∀ b ∈ l2, b < 256) :
    Ext w0 w2 ∧ ∃ A c, v2 = .slice A m c ∧ By w2 A m c (l1 ++ l2) ∧ w2.ownsRow w0.heap.size e 1 (.slice A m c) m (vb (l1 ++ l2)) := by
  refine ⟨Below.grown hx hg (Ext.size hx) (fun g hg' => (hown.lt g hg').1), ?_⟩
  obtain ⟨A, c, rfl, _, _⟩ := own_form h2
  rw [← vb_append] at h2
  exact ⟨A, c, rfl, Bs.of_own h2 (by intro b hb; rcases List.mem_append.1 hb with h | h; exact hb1 b h; exact hb2 b h), h2⟩
end Go.Proofs.YtnlappoocffcpaaDoor
