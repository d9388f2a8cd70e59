/-
  The contract of the document's own Text, and of append of a slice that came in, nil or not, onto a row of the call's own.
-/
import Derived.Test.YtcnjhblboedbpaaBy
namespace Go.Proofs.Ytcnjhblboedbpaa
open Go Go.RowKit

theorem wpList_append_by {P : Program} {w : World} {ops : Array Oper} {rest : List Oper} {o : Oper} {a : Act} {Q : Exit → Act → World → Prop} (hgd : o.guard = none) (s x : Operand) (t : TypeId)
    (ho : o.op = .call { callee := .builtin .append, args := #[s, x], argTypes := #[t, t] })
    (base : Nat) (e : TypeId) (i : TypeInfo) (ht : P.underlying t = some (.slice e)) (hi : P.info? e = some i) (hz : i.zero = some (.int .u8 0))
    (hsize : i.size = 1) (hby : i.bytes = 1)
    (v : Value) (n : Nat) (xs : List Value) (hs : a.eval s = v) (hown : w.ownsRow base e 1 v n xs)
    (A : Option Addr) (m c : Nat) (l : List Nat) (hx : a.eval x = .slice A m c) (hb : By w A m c l)
    (hbytes : n + m ≤ 140737488355328) (hbase : base ≤ w.heap.size)
    (h : ∀ v' w', w'.ownsRow base e 1 v' (n + m) (xs ++ vb l) → w.grownBy w' v.ownBlock → wpList P ops Q rest (a.put o.dst v') w') : wpList P ops Q (o :: rest) a w := by
  cases A with
  | none =>
    obtain rfl := Bs.nil_ hb rfl
    have hm : m = 0 := by have := hb.cap; omega
    subst hm
    have hl : l = [] := List.eq_nil_of_length_eq_zero hb.len
    subst hl
    refine wpList_append_own_none hgd s x t ho base e i 1 ht hi v n xs hs hown hx ?_
    exact h v w (by simpa [vb] using hown) (World.grownBy.refl _ _)
  | some ad =>
    refine wpList_append_own w hgd s x t ho base e i (.int .u8 0) 1 1 ht hi hz hsize hby rfl (by decide) v n xs hs hown ad m c (vb l) hx (by rw [vb_length, hb.len]; omega) ?_ (vb_one l) (by unfold maxLen; omega) (by omega) hbase fun v' w' h1 h2 _ => h v' w' h1 h2
    intro j u hj
    rw [vb_get] at hj
    obtain ⟨y, hy, rfl⟩ := Option.map_eq_some_iff.1 hj
    have hjl : j < l.length := (List.getElem?_eq_some_iff.1 hy).1
    obtain ⟨g, o', z, hA, _, hz', _, hc⟩ := hb.rd.at_ hjl
    injection hA with hA
    subst hA
    rw [hy] at hz'
    injection hz' with hz'
    subst hz'
    rw [Addr.add_lit, hc]

theorem bl_step (s : ByteArray) (k : Nat) (h : k < s.size) : (bl s).take (k + 1) = (bl s).take k ++ [s[k].toNat] := by
  have e : (bl s)[k]? = some s[k].toNat := by
    unfold bl
    rw [List.getElem?_map, Array.getElem?_toList, Array.getElem?_eq_getElem h]
    rfl
  rw [List.take_add_one, e]
  rfl

theorem rtext_step {w wr w1 : World} {s : ByteArray} {k : Nat} {v v1 : Value} (hk : k < s.size) (hown : wr.ownsRow w.heap.size 5 1 v (k + 1) (vb (s.size :: (bl s).take k))) (hbel : Ext w wr)
    (hown1 : w1.ownsRow w.heap.size 5 1 v1 (k + 1 + 1) (vb (s.size :: (bl s).take k) ++ [.int .u8 (s[k].toNat : Int)])) (hg : (wr.alloc (.cells #[.int .u8 (s[k].toNat : Int)] 5)).grownBy w1 v.ownBlock) :
    w1.ownsRow w.heap.size 5 1 v1 (k + 1 + 1) (vb (s.size :: (bl s).take (k + 1))) ∧ Ext w w1 := by
  refine ⟨?_, ?_⟩
  · rw [bl_step s k hk]
    have e : vb (s.size :: ((bl s).take k ++ [s[k].toNat])) = vb (s.size :: (bl s).take k) ++ [.int .u8 (s[k].toNat : Int)] := by simp [vb]
    rw [e]
    exact hown1
  · refine Below.grown (Ext.alloc hbel _) hg (Nat.le_trans (Ext.size hbel) (by simp)) ?_
    intro g hg'
    exact (hown.lt g hg').1

set_option maxHeartbeats 1000000 in
theorem rtext_yes (s : ByteArray) (w : World) (hs : s.size ≤ 255) :
    Calls Try.prog 5 #[.string s] w fun e w' => ∃ A' c', e = .returned (.tuple #[.slice A' (s.size + 1) c', .int .i64 0]) ∧ By w' A' (s.size + 1) c' (s.size :: bl s) ∧ Ext w w' := by
  obtain ⟨i0, hi, hz0, hz1, hz2⟩ := info_parts byte_info
  go_enter Try.func5, Try.ntmps5
  go_wp2_with fail
  go_loopw [4, 5] (fun v i wr => ∃ k : Nat, k ≤ s.size ∧ i = .int .i64 k ∧ Hid (wr.ownsRow w.heap.size 5 1 v (k + 1) (vb (s.size :: (bl s).take k))) ∧ Hid (Ext w wr)) (fun _ i _ => s.size - (intOf i).toNat)
  case atStart =>
    refine ⟨0, Nat.zero_le _, rfl, Lib.hid ?_, Lib.hid ((Ext.refl w).alloc _)⟩
    have h := World.ownsRow_lit (base := w.heap.size) (e := 5) (size := 1) w #[Value.int .u8 (s.size : Int)] 1 (Nat.le_refl _) (by unfold maxLen; omega) rfl
    simpa [vb] using h
  case round =>
    obtain ⟨k, hk, rfl, HO, HX⟩ := hrel
    have hsz := HX.out.size
    by_cases hlt : k < s.size
    · have hby := (s[k]).toNat_lt
      go_wp2_with (at_builtin; refine wpList_append_own _ rfl _ _ 22 rfl w.heap.size 5 i0 (.int .u8 0) 1 1 Try.underlying22 hi hz0 hz1 hz2 rfl (by decide) _ _ _ rfl (HO.out.alloc _) ⟨wr.heap.size, 0, none⟩ 1 1 [.int .u8 (s[k].toNat : Int)] rfl rfl ?c1 ?c2 ?c3 ?c4 ?c5 ?_)
      case c1 =>
        intro j u hj
        match j, hj with
        | 0, hj => simp at hj; subst hj; simp [Addr.add]
      case c2 => intro u hu; simp at hu; subst hu; rfl
      case c3 => unfold maxLen; omega
      case c4 => omega
      case c5 => simp; omega
      intro v1 w1 hown hg _
      have R := rtext_step hlt HO.out HX.out hown hg
      have HO1 := Lib.hid R.1
      have HX1 := Lib.hid R.2
      clear hown hg R
      go_wp2_with fail
      go_roundw
      case rel => exact ⟨k + 1, by omega, by go_num, HO1, HX1⟩
      case measure => simp [intOf]; omega
    · have e0 : (bl s).take k = bl s := List.take_of_length_le (by rw [bl_length]; omega)
      have HK : Hid (k = s.size) := Lib.hid (by omega)
      have h1 := HO.out
      rw [e0, HK.out] at h1
      obtain ⟨A', c', hv, _, _⟩ := own_form h1
      subst hv
      have HO3 := Lib.hid h1
      clear h1 e0
      go_wp2_with fail
      go_ret2
      exact ⟨A', c', rfl, Bs.of_own HO3.out (by
        intro b hb
        simp only [List.mem_cons] at hb
        rcases hb with rfl | hb
        · omega
        · exact bl_lt s b hb), HX.out⟩

theorem rtext_no (s : ByteArray) (w : World) (hs : 255 < s.size) (hm : s.size ≤ 9223372036854775807) :
    Calls Try.prog 5 #[.string s] w fun e w' => e = .returned (.tuple #[.slice none 0 0, .int .i64 3]) ∧ Ext w w' := by
  go_enter Try.func5, Try.ntmps5
  go_wp2_with fail
  go_ret2
  exact ⟨rfl, Ext.refl _⟩
end Go.Proofs.Ytcnjhblboedbpaa
