/-
  GhostNothing: without faults nothing is hurt, and all is seen.
-/
import Derived.Test.YtldgamgdbneneaaDoorQ11
import Derived.Test.YtldgamgdbneneaaDoorQ24
import Derived.Test.YtldgamgdbneneaaDoorQ25
import Derived.Test.YtldgamgdbneneaaDoorQ28
namespace Go.Proofs.YtldgamgdbneneaaDoor
open Go Go.RowKit Go.Shelf

theorem NInv.seenB {m : DM} (h : NInv m) (r : Int) : m.seenB r = true := by
  unfold DM.seenB
  rw [hurtsIn_nil fun s _ _ => h.hurt s]
  rfl
theorem known_in {r : Nat} (h : r < 7) : knownG 156 (r : Int) = 0 := by
  unfold knownG
  rw [if_neg (by omega), if_neg (by omega)]

set_option maxRecDepth 100000 in
set_option maxHeartbeats 2400000 in
theorem ghostNothing_law (A : Option Addr) (n c : Nat) (l : List Act6) (z : Int) (w : World) (ha : Acts6 w w.heap.size A n c l) (_ : (Lit.int .i64 z).wf = true) (hL : LaidF w) :
    Calls Tryd.prog 4 #[.slice A n c, .int .i64 z] w fun e w' => e = .returned (.bool true) ∧ Ext w w' := by
  have HA := Lib.hid ha
  have HL := Lib.hid hL
  have hn : 0 ≤ n := Nat.zero_le _
  obtain ⟨rp, hrp, hwq⟩ := wrap_mod z 7 (by omega) (by omega)
  have hwq : wrap64 ((IntKind.u64.wrap z).tmod 7) = (rp : Int) := hwq
  have HRP := Lib.hid hrp
  clear ha hL hrp
  go_enter Tryd.func4, Tryd.ntmps4
  go_wp2_with fail
  refine (gawake_any w HL.out).mono ?_
  rintro e w1 ⟨rfl, hx⟩
  have HE := Lib.hid hx
  clear hx
  go_wp2_with fail
  refine (great6_of HE.out.size A n c l (HA.out.below HE.out)).mono ?_
  rintro e w1' ⟨b, rfl, hx, hg⟩
  have HE := Lib.hid (HE.out.trans hx)
  clear hx
  cases b with
  | true =>
    go_wp2_with fail
    go_ret
    exact ⟨rfl, HE.out⟩
  | false =>
    obtain ⟨hn60, hall⟩ := hg rfl
    have HALL := Lib.hid hall
    clear hg hall
    go_wp2_with fail
    refine (gnew_156 _).mono ?_
    rintro e w2 ⟨d, rfl, hp, hx⟩
    have HD : Hid (DK w w2 d _ (DM.new 156)) := Lib.hid ⟨hp, fun k hk => Nat.le_trans HE.out.size hk.1, HE.out.trans hx⟩
    clear hp hx
    go_wp2_with fail
    go_loopw [7] (fun i wr => ∃ (k : Nat) (F : Nat → Prop) (m : DM), k ≤ n ∧ i = .int .i64 k ∧ Hid (DK w wr d F m) ∧ Hid (NInv m ∧ m.size = 156 ∧ m.waits.length ≤ 2 * k)) (fun i _ => n - (intOf i).toNat)
    case atStart => exact ⟨0, _, _, Nat.zero_le _, rfl, HD, Lib.hid ⟨NInv.new 156, by simp [DM.new, DM.size], by simp [DM.new]⟩⟩
    case round =>
      obtain ⟨k, F, m, hkn, rfl, HD, HM⟩ := hrel
      by_cases hlt : k < n
      · obtain ⟨g, o, x, rfl, hg, hx, hok, hc⟩ := HA.out.at_ hlt
        obtain ⟨h0, h1, h2, h3, h4, h5, h6, h7, h8, h9, h10, h11⟩ := hc.below HD.out.bel hg
        have hmem := HALL.out x (List.mem_of_getElem? hx)
        obtain ⟨q, hq⟩ : ∃ q, x.act.kind % 9 = q := ⟨_, rfl⟩
        have hq9 : q < 9 := by omega
        have hqm : ((x.act.kind : Nat) : Int).tmod 9 = (q : Int) := by rw [Int.tmod_eq_emod_of_nonneg (by omega)]; omega
        have hwq8 : IntKind.u8.wrap (q : Int) = (q : Int) := by rw [IntKind.wrap_u8]; omega
        have hdo := do6_dk HD.out HL.out.a.t x hok hmem.2.1 (by have := HM.out.2.2; omega)
        have hnext : (x.sl = true ∨ ¬ (3 ≤ q ∧ q ≤ 5)) → NInv (m.act6 x) ∧ (m.act6 x).size = 156 ∧ (m.act6 x).waits.length ≤ 2 * (k + 1) := fun hh => by
          refine ⟨HM.out.1.act6 hok.body.rd.lt hok.act.bytes.rd.lt (by rw [hq]; exact hh), (act6_size m x).trans HM.out.2.1, ?_⟩
          have := act6_waits m x
          have := HM.out.2.2
          omega
        have HDO := Lib.hid hdo
        have HNX := Lib.hid hnext
        have HSK : Hid (NInv m ∧ m.size = 156 ∧ m.waits.length ≤ 2 * (k + 1)) := Lib.hid ⟨HM.out.1, HM.out.2.1, by have := HM.out.2.2; omega⟩
        clear hx hok hc hmem hq hdo hnext
        by_cases hs : x.sl = true
        · rw [hs] at h0 HDO
          have HN := Lib.hid (HNX.out (.inl hs))
          clear hs
          go_wp2_with fail
          refine HDO.out.mono ?_
          rintro e w4 ⟨⟨v, rfl⟩, F', hD'⟩
          have HD' := Lib.hid hD'
          clear hD'
          go_wp2_with fail
          go_roundw
          case rel => exact ⟨k + 1, _, _, by omega, by go_num, HD', HN⟩
          case measure => simp [intOf]; omega
        · have hs : x.sl = false := by simpa using hs
          rw [hs] at h0 HDO
          by_cases c3 : q < 3
          · have HN := Lib.hid (HNX.out (.inr (by omega)))
            clear hs
            go_wp2_with fail
            refine HDO.out.mono ?_
            rintro e w4 ⟨⟨v, rfl⟩, F', hD'⟩
            have HD' := Lib.hid hD'
            clear hD'
            go_wp2_with fail
            go_roundw
            case rel => exact ⟨k + 1, _, _, by omega, by go_num, HD', HN⟩
            case measure => simp [intOf]; omega
          · by_cases c5 : 5 < q
            · have HN := Lib.hid (HNX.out (.inr (by omega)))
              clear hs
              go_wp2_with fail
              refine HDO.out.mono ?_
              rintro e w4 ⟨⟨v, rfl⟩, F', hD'⟩
              have HD' := Lib.hid hD'
              clear hD'
              go_wp2_with fail
              go_roundw
              case rel => exact ⟨k + 1, _, _, by omega, by go_num, HD', HN⟩
              case measure => simp [intOf]; omega
            · clear hs HNX HDO
              go_wp2_with fail
              go_roundw
              case rel => exact ⟨k + 1, _, _, by omega, by go_num, HD, HSK⟩
              case measure => simp [intOf]; omega
      · have hse := seen_yes HD.out.disk (HL.out.ext HD.out.bel) (rp : Int) (by rw [HM.out.2.1]; exact known_in HRP.out)
        rw [HM.out.1.seenB] at hse
        have HSE := Lib.hid hse
        have HHU : Hid (hurtsIn m.hurt 0 m.size = []) := Lib.hid (hurtsIn_nil fun s _ _ => HM.out.1.hurt s)
        clear hse
        go_wp2_with fail
        refine HSE.out.mono ?_
        rintro e w5 ⟨rfl, hx⟩
        have HD := Lib.hid (HD.out.ext hx)
        clear hx
        go_wp2_with fail
        refine (hurt_sl (l := []) HD.out.disk (by rw [HM.out.2.1]; omega) HHU.out).mono ?_
        rintro e w6 ⟨A6, c6, rfl, _, hx⟩
        have HD := Lib.hid (HD.out.ext hx)
        clear hx
        go_wp2_with fail
        go_ret
        exact ⟨rfl, HD.out.bel⟩
end Go.Proofs.YtldgamgdbneneaaDoor
