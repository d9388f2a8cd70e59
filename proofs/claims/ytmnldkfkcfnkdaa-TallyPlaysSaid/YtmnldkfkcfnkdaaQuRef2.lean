/-
  The contracts of the document's Members, Enough, Same.
-/
import Derived.Test.YtmnldkfkcfnkdaaQuRef
namespace Go.Proofs.Ytmnldkfkcfnkdaa
set_option maxRecDepth 100000
open Go Go.RowKit

set_option maxRecDepth 100000 in
set_option maxHeartbeats 800000 in
theorem rmembers_own (s : Nat) (hs : s < 256) (n : Int) (w : World) :
    Calls Try.prog 34 #[.int .u8 (s : Int), .int .i64 n] w fun e w' =>
      ∃ v, e = .returned v ∧ w'.ownsRow w.heap.size 3 1 v (membersQ s n).length ((membersQ s n).map fun k : Nat => Value.int .i64 (k : Int)) ∧ Ext w w' := by
  obtain ⟨i0, hi, hz0, hz1, hz2⟩ := info_parts int_infoQ
  have HMo := Lib.hid (fun V => rmost_of n V)
  by_cases hm : mostQ n = 0
  · have HE := Lib.hid (show membersQ s n = [] by unfold membersQ; rw [if_pos hm])
    rw [hm] at HMo
    clear hm
    by_cases hn : 0 < n
    all_goals
      go_enter Try.func34, Try.ntmps34
      go_wp2_with fail
      go_loopw [5, 6] (fun v i wr => v = .slice none 0 0 ∧ i = .int .i64 0 ∧ wr = w) (fun _ _ _ => 0)
      case atStart => exact ⟨rfl, rfl, rfl⟩
      case round =>
        obtain ⟨rfl, rfl, rfl⟩ := hrel
        go_wp2_with fail
        first
          | (refine (HMo.out _).mono ?_
             rintro e w1 ⟨rfl, rfl⟩
             go_wp2_with fail)
          | skip
        go_ret
        exact ⟨_, rfl, by rw [HE.out]; exact World.ownsRow_nil _ _ _ _, Ext.refl _⟩
  · have HE := Lib.hid (show membersQ s n = memQ s n.toNat by unfold membersQ; rw [if_neg hm])
    have hn : 0 ≤ n ∧ n ≤ 7 := by rcases mostQ_cases hm with rfl | rfl | rfl <;> omega
    have hmp : (0 : Int) < (mostQ n : Int) := by omega
    generalize mostQ n = mq at *
    clear hm
    obtain ⟨N, rfl⟩ : ∃ N : Nat, n = (N : Int) := ⟨n.toNat, by omega⟩
    rw [Int.toNat_natCast] at HE
    have hN : N ≤ 7 := by omega
    clear hn
    go_enter Try.func34, Try.ntmps34
    go_wp2_with fail
    go_loopw [5, 6] (fun v i wr => ∃ k : Nat, k ≤ N ∧ i = .int .i64 (k : Int) ∧ Hid (wr.ownsRow w.heap.size 3 1 v (memQ s k).length ((memQ s k).map fun k : Nat => Value.int .i64 (k : Int))) ∧ Below w.heap.size w wr) (fun _ i _ => N - (intOf i).toNat)
    case atStart => exact ⟨0, Nat.zero_le _, rfl, Lib.hid (World.ownsRow_nil _ _ _ _), Below.refl _ _⟩
    case round =>
      obtain ⟨k, hk, rfl, HO, hbk⟩ := hrel
      have HBk := Lib.hid hbk
      have hsz := hbk.size
      have hml := memQ_len s k
      clear hbk
      by_cases hlt : k < N
      · have hlt' : (k : Int) < (N : Int) := by omega
        have HH := Lib.hid (fun V => rhas_of s hs (k : Int) V)
        have e7 : hasQ s (k : Int) = s.testBit k := by unfold hasQ; rw [decide_eq_true (show (0 : Int) ≤ (k : Int) ∧ (k : Int) < 7 by omega)]; rfl
        rw [e7] at HH
        have HS := Lib.hid (memQ_succ s k)
        obtain ⟨b, hb⟩ : ∃ b, s.testBit k = b := ⟨_, rfl⟩
        rw [hb] at HH
        rw [hb] at HS
        clear hb e7
        go_wp2_with fail
        refine (HMo.out _).mono ?_
        rintro e w1 ⟨rfl, rfl⟩
        go_wp2_with fail
        refine (HH.out _).mono ?_
        rintro e w1 ⟨rfl, rfl⟩
        cases b with
        | false =>
          go_wp2_with fail
          go_roundw
          case rel => exact ⟨k + 1, by omega, by go_num, by rw [HS.out]; exact HO, HBk.out⟩
          case measure => simp [intOf]; omega
        | true =>
          go_wp2_with (at_builtin; refine wpList_append_own _ rfl _ _ 51 rfl w.heap.size 3 i0 (.int .i64 0) 1 8 Try.underlying51 hi hz0 hz1 hz2 rfl (by decide) _ _ _ rfl (HO.out.alloc _) ⟨wr.heap.size, 0, none⟩ 1 1 [.int .i64 (k : Int)] rfl rfl ?c1 ?c2 ?c3 ?c4 ?c5 ?_)
          case c1 =>
            intro j u hj
            match j, hj with
            | 0, hj => simp at hj; subst hj; simp [Addr.add]
          case c2 => intro u hu; simp at hu; subst hu; rfl
          case c3 => unfold maxLen; omega
          case c4 => omega
          case c5 => simp; omega
          intro v1 w1 hown hg _
          have HO1 : Hid (w1.ownsRow w.heap.size 3 1 v1 (memQ s (k + 1)).length ((memQ s (k + 1)).map fun k : Nat => Value.int .i64 (k : Int))) := by
            refine Lib.hid ?_
            rw [HS.out, if_pos (by first | trivial | rfl), List.length_append, List.map_append]
            exact hown
          have HB1 : Hid (Below w.heap.size w w1) := by
            refine Lib.hid ((HBk.out.alloc HBk.out.size _).grown hg (Nat.le_trans HBk.out.size (by simp)) ?_)
            intro g hg'
            exact (HO.out.lt g hg').1
          clear hown hg
          go_wp2_with fail
          go_roundw
          case rel => exact ⟨k + 1, by omega, by go_num, HO1, HB1.out⟩
          case measure => simp [intOf]; omega
      · obtain rfl : k = N := by omega
        obtain ⟨A', c', hv, _, _⟩ := own_form HO.out
        subst hv
        go_wp2_with fail
        go_ret
        exact ⟨_, rfl, by rw [HE.out]; exact HO.out, HBk.out⟩
theorem rmembers_of (s : Nat) (hs : s < 256) (n : Int) (w : World) :
    Calls Try.prog 34 #[.int .u8 (s : Int), .int .i64 n] w fun e w' =>
      ∃ A c, e = .returned (.slice A (memI s n).length c) ∧ LsI w' A (memI s n).length c (memI s n) ∧ Ext w w' :=
  (rmembers_own s hs n w).mono fun e w' ⟨v, he, hrow, hx⟩ => by
    obtain ⟨A, c, rfl, hL⟩ := lsI_own hrow
    exact ⟨A, c, by unfold memI; rw [List.length_map]; exact he, by unfold memI; rw [List.length_map]; exact hL, hx⟩
end Go.Proofs.Ytmnldkfkcfnkdaa
