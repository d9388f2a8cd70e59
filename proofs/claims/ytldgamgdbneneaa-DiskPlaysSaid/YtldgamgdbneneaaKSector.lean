/-
  The contract of the statements' Sector: what an act writes.
-/
import Derived.Test.YtldgamgdbneneaaKStray
import Derived.Test.YtldgamgdbneneaaSC
import Derived.Test.YtldgamgdbneneaaActs
import Derived.Laws.AppendOwnNone
namespace Go.Proofs.Ytldgamgdbneneaa
set_option maxRecDepth 100000
open Go Go.RowKit

def actV (a : Act5) : Value := .agg #[.int .u8 (a.kind : Int), .int .i64 a.sec, .int .i64 a.num, .slice a.bA a.bn a.bc, .slice a.kA a.kn a.kc]
theorem vb_rep (k x : Nat) : vb (List.replicate k x) = List.replicate k (.int .u8 (x : Int)) := by simp [vb]
theorem own_base5 {w : World} {b b' n : Nat} {e : TypeId} {s : Nat} {v : Value} {xs : List Value} (h : w.ownsRow b e s v n xs) (hb : b' ≤ b) : w.ownsRow b' e s v n xs := by
  refine ⟨h.1, ?_⟩
  rcases h.2 with h0 | ⟨g, cap, cur, hv, hbg, h1⟩
  · exact .inl h0
  · exact .inr ⟨g, cap, cur, hv, Nat.le_trans hb hbg, h1⟩
set_option maxRecDepth 100000 in
set_option maxHeartbeats 1600000 in
theorem sector_of (a : Act5) (w : World) (ha : a.Ok w w.heap.size) (hn : a.bn ≤ 140737488355328) :
    Calls Try.prog 21 #[actV a] w fun e w' => ∃ A n c, e = .returned (.slice A n c) ∧ w'.ownsRow w.heap.size 5 1 (.slice A n c) n (vb (actB a.num a.bl)) ∧ Ext w w' := by
  unfold actV
  have hE := (Ext.refl w).alloc (.cells #[.int .u8 (a.kind : Int), .int .i64 a.sec, .int .i64 a.num, .slice a.bA a.bn a.bc, .slice a.kA a.kn a.kc] 36)
  have hb : By w a.bA a.bn a.bc a.bl := ha.bytes
  have HB := Lib.hid (hb.ext hE)
  have HE := Lib.hid hE
  have hlen : a.bl.length = a.bn := hb.len
  have HLT := Lib.hid hb.rd.lt
  by_cases h0 : a.bn = 0
  · have hbl : a.bl = [] := List.eq_nil_of_length_eq_zero (by omega)
    obtain ⟨x, hx⟩ : ∃ x : Nat, IntKind.u8.wrap a.num = (x : Int) ∧ x = (a.num % 256).toNat := ⟨(a.num % 256).toNat, by rw [IntKind.wrap_u8]; omega, rfl⟩
    have HX : Hid (actB a.num a.bl = List.replicate 64 x) := Lib.hid (by unfold actB; rw [if_pos hbl, hx.2])
    have hxw := hx.1
    have hr0 := heap_alloc_new w (.cells #[.int .u8 (a.kind : Int), .int .i64 a.sec, .int .i64 a.num, .slice a.bA a.bn a.bc, .slice a.kA a.kn a.kc] 36)
    have HR := Lib.hid hr0
    rw [h0] at *
    obtain ⟨i0, hi, hz0, hz1, hz2⟩ := info_parts byte_info
    clear h0 hbl hx hb ha hE hlen hr0 hn
    go_enter Try.func21, Try.ntmps21
    go_wp2_with fail
    have HE0 := Lib.hid ((Ext.refl w).alloc (.cells #[.int .u8 (a.kind : Int), .int .i64 a.sec, .int .i64 a.num, .slice a.bA 0 a.bc, .slice a.kA a.kn a.kc] 36))
    clear HB HE
    go_loopw [4, 3] (fun i v wr => ∃ k : Nat, k ≤ 64 ∧ i = .int .i64 k ∧ Hid (wr.ownsRow (w.heap.size + 1) 5 1 v k (vb (List.replicate k x))) ∧ Hid (Ext w wr) ∧ w.heap.size < wr.heap.size ∧ Hid (wr.heap[w.heap.size]? = some (.cells #[.int .u8 (a.kind : Int), .int .i64 a.sec, .int .i64 a.num, .slice a.bA 0 a.bc, .slice a.kA a.kn a.kc] 36 (0, 0)))) (fun i _ _ => 64 - (intOf i).toNat)
    case atStart => exact ⟨0, by omega, rfl, Lib.hid (World.ownsRow_nil _ _ _ _), HE0, by simp, HR⟩
    case round =>
      obtain ⟨k, hk, rfl, HO, HX1, hlt0, HB⟩ := hrel
      have hc2 : wr.cell? ⟨w.heap.size, 2, none⟩ = some (.int .i64 a.num) := cell_of_row wr _ 2 _ _ _ HB.out
      by_cases hlt : k < 64
      · go_wp2_with (at_builtin; refine wpList_append_own _ rfl _ _ 33 rfl (w.heap.size + 1) 5 i0 (.int .u8 0) 1 1 Try.underlying33 hi hz0 hz1 hz2 rfl (by decide) _ _ _ rfl (HO.out.alloc _) ⟨wr.heap.size, 0, none⟩ 1 1 [.int .u8 (x : Int)] rfl rfl ?c1 ?c2 ?c3 ?c4 ?c5 ?_)
        case c1 =>
          intro j u hj
          match j, hj with
          | 0, hj => simp at hj; subst hj; simp [Addr.add]
        case c2 => intro u hu; simp at hu; subst hu; rfl
        case c3 => unfold maxLen; omega
        case c4 => omega
        case c5 => simp; omega
        intro v1 w1 hown hg _
        have ho : ∀ g, v1.ownBlock = some g → w.heap.size + 1 ≤ g := fun g hg' => (hown.lt g hg').1
        have hx2 : Ext w w1 := Below.grown (HX1.out.alloc (.cells #[.int .u8 (x : Int)] 5)) hg (by have := HX1.out.size; simp; omega) (fun g hg' => by have := (HO.out.lt g hg').1; omega)
        have hb2 : w1.heap[w.heap.size]? = some (.cells #[.int .u8 (a.kind : Int), .int .i64 a.sec, .int .i64 a.num, .slice a.bA 0 a.bc, .slice a.kA a.kn a.kc] 36 (0, 0)) :=
          (hg.block _ (by simp; omega) (fun e => by have := (HO.out.lt _ e.symm).1; omega)).trans ((Below.heap_alloc _ _ _ hlt0).trans HB.out)
        have HO1 : Hid (w1.ownsRow (w.heap.size + 1) 5 1 v1 (k + 1) (vb (List.replicate (k + 1) x))) := Lib.hid (by
          rw [vb_rep, List.replicate_succ', ← vb_rep]
          exact hown)
        have HX2 := Lib.hid hx2
        have HB2 := Lib.hid hb2
        have hlt1 : w.heap.size < w1.heap.size := (Array.getElem?_eq_some_iff.1 hb2).1
        clear hown hg hx2 hb2 ho hc2
        go_wp2_with fail
        go_roundw
        case rel => exact ⟨k + 1, by omega, by go_num, HO1, HX2, hlt1, HB2⟩
        case measure => simp [intOf]; omega
      · obtain rfl : k = 64 := by omega
        obtain ⟨A', c', hv, _, _⟩ := own_form HO.out
        subst hv
        go_wp2_with fail
        go_ret
        exact ⟨A', 64, c', rfl, by rw [HX.out]; exact own_base5 HO.out (by omega), HX1.out⟩
  · have hbl : a.bl ≠ [] := fun e => h0 (by rw [← hlen, e]; rfl)
    have HX : Hid (actB a.num a.bl = a.bl) := Lib.hid (by unfold actB; rw [if_neg hbl])
    have hpos : (0 : Int) < (a.bn : Int) := by omega
    clear h0 hbl hb ha hE hlen
    go_enter Try.func21, Try.ntmps21
    go_wp2_with fail
    refine (copy_by _ _ _ _ _ HB.out hn).mono ?_
    rintro e w1 ⟨A', c', rfl, _, hx, hown⟩
    have HO := Lib.hid hown
    have HX1 := Lib.hid (HE.out.trans hx)
    clear hx hown
    go_wp2_with fail
    go_ret
    exact ⟨A', a.bn, c', rfl, by rw [HX.out]; exact own_base5 HO.out (by simp), HX1.out⟩
end Go.Proofs.Ytldgamgdbneneaa
