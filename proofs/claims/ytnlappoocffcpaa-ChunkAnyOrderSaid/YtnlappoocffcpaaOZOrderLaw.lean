/-
  ChunkAnyOrder: chunks put in any order, some again and again, make the bytes; with one lost they don't.
-/
import Derived.Test.YtnlappoocffcpaaO00
import Derived.Test.YtnlappoocffcpaaO04
import Derived.Test.YtnlappoocffcpaaO05
namespace Go.Proofs.Ytnlappoocffcpaa
open Go Go.RowKit
structure OrdZ (w2 w : World) (h ln bm pb no j : Nat) (l : List Nat) (f : Int → Option Lst) (P : List Bool) : Prop where
  heap : ∃ nb, nb ≤ j ∧ ZH w h ln bm nb f
  row : PutR w pb P
  hold : HoldZ f P l ln
  past : ∀ k, k < ln → no + k < j → P.getD k false = true
  ext : Ext w2 w
  lo : w2.heap.size ≤ bm ∧ w2.heap.size ≤ pb ∧ h ≠ pb ∧ bm ≠ pb ∧ w2.heap.size ≤ w.heap.size
theorem OrdZ.keep {w2 w w' : World} {h ln bm pb no j : Nat} {l : List Nat} {f : Int → Option Lst} {P : List Bool} (o : OrdZ w2 w h ln bm pb no j l f P) (k : Ext w w') : OrdZ w2 w' h ln bm pb no j l f P :=
  ⟨o.heap.imp fun _ hh => ⟨hh.1, hh.2.ext k⟩, o.row.keep (k.block pb (Array.getElem?_eq_some_iff.1 o.row).1), o.hold, o.past, o.ext.trans k, ⟨o.lo.1, o.lo.2.1, o.lo.2.2.1, o.lo.2.2.2.1, Nat.le_trans o.lo.2.2.2.2 k.size⟩⟩
theorem OrdZ.put {w2 w w' : World} {h ln bm pb no j nb k : Nat} {l : List Nat} {f : Int → Option Lst} {P : List Bool} {a : Lst} (o : OrdZ w2 w h ln bm pb no j l f P) (hnb : nb ≤ j) (z : ZH w' h ln bm (nb + 1) (updZ f (k : Int) (some a))) (hm : Mod (fun i => i = bm) w w') (hk : k < ln) (ha : a.l = chunkL l k) (hj : j < no ∨ no + k = j) :
    PutR w' pb P ∧ k < P.length ∧ OrdZ w2 (w'.setCell ⟨pb, k, none⟩ (.bool true)) h ln bm pb no (j + 1) l (updZ f (k : Int) (some a)) (P.set k true) := by
  have hr : PutR w' pb P := o.row.keep (hm.block pb (Array.getElem?_eq_some_iff.1 o.row).1 (fun e => o.lo.2.2.2.1 e.symm))
  have hmp := mod_cellP w' pb k (.bool true)
  have hlen := o.hold.len
  have hsz := hm.size
  refine ⟨hr, by omega, ⟨nb + 1, by omega, z.keepP hr hmp o.lo.2.2.1 o.lo.2.2.2.1⟩, hr.set k, o.hold.put k a hk ha, fun i hi hij => ?_, ?_, o.lo.1, o.lo.2.1, o.lo.2.2.1, o.lo.2.2.2.1, ?_⟩
  · rw [List.getD_eq_getElem?_getD, List.getElem?_set]
    by_cases e : k = i
    · rw [if_pos e, if_pos (by omega)]
      rfl
    · rw [if_neg e, ← List.getD_eq_getElem?_getD]
      exact o.past i hi (by omega)
  · exact Below.trans (Below.trans o.ext (below_of_modZ hm o.lo.1 o.lo.2.2.2.2)) (below_of_modZ hmp o.lo.2.1 (by have := o.lo.2.2.2.2; omega))
  · have := o.lo.2.2.2.2
    have := hmp.size
    omega
theorem by_atZ {w : World} {A : Option Addr} {n c k : Nat} {l : List Nat} (h : By w A n c l) (hk : k < n) : ∃ g o x, A = some ⟨g, o, none⟩ ∧ x < 256 ∧ w.cell? ⟨g, o + k, none⟩ = some (.int .u8 ((x : Nat) : Int)) := by
  have hl := h.len
  obtain ⟨g, o, hA, hlt, hc⟩ := h.rd.2 (by omega)
  have hkl : k < l.length := by omega
  exact ⟨g, o, l[k], hA, h.rd.lt _ (List.getElem_mem hkl), hc k _ (List.getElem?_eq_getElem hkl)⟩
set_option maxRecDepth 100000 in
set_option maxHeartbeats 3200000 in
theorem chunkAnyOrder_law (A : Option Addr) (n c : Nat) (l : List Nat) (A2 : Option Addr) (no c2 : Nat) (l2 : List Nat) (lost : Int) (w : World) (h1 : Bs w w.heap.size A n c l) (h2 : Bs w w.heap.size A2 no c2 l2) (_ : (Lit.int .i64 lost).wf = true) :
    Calls Try.prog 7 #[.slice A n c, .slice A2 no c2, .int .i64 lost] w fun r' w' => r' = .returned (.bool true) ∧ Below w.heap.size w w' := by
  show Calls Try.prog 7 #[.slice A n c, .slice A2 no c2, .int .i64 lost] w fun r' w' => r' = .returned (.bool true) ∧ Ext w w'
  have HB1 : Hid (By w A n c l) := Lib.hid h1
  have HB2 : Hid (By w A2 no c2 l2) := Lib.hid h2
  have hlen : l.length = n := h1.len
  have hlen2 : l2.length = no := h2.len
  clear h1 h2
  go_enter Try.func7, Try.ntmps7
  go_wp2_with fail
  refine (zawake_any w).mono ?_
  rintro e w1 ⟨rfl, hx⟩
  have HX1 : Hid (Ext w w1) := Lib.hid hx
  clear hx
  by_cases hn : n ≤ 640
  case neg =>
    have hn : (640 : Int) < (n : Int) := by omega
    go_wp2_with fail
    go_ret
    exact ⟨rfl, HX1.out⟩
  have hn' : (n : Int) ≤ 640 := by omega
  by_cases hno : no ≤ 60
  case neg =>
    have hno : (60 : Int) < (no : Int) := by omega
    go_wp2_with fail
    go_ret
    exact ⟨rfl, HX1.out⟩
  have hno' : (no : Int) ≤ 60 := by omega
  have HLE : Hid (l.length ≤ 640) := Lib.hid (by omega)
  go_wp2_with fail
  refine (zsplit_lsts A n c l (HB1.out.ext HX1.out) hn).mono ?_
  rintro e w2 ⟨A3, c3, L, rfl, hL, hl, hx⟩
  have HX2 : Hid (Ext w w2) := Lib.hid (HX1.out.trans hx)
  have hLn : L.length = chunkN l.length := by
    have e := congrArg List.length hl
    unfold lsOf at e
    rw [List.length_map, splitL_len] at e
    exact e
  have hch := chunkN_in HLE.out
  have HLS := Lib.hid hL
  have HLL := Lib.hid hl
  generalize hln : L.length = ln at *
  have hl1 : 1 ≤ ln := by omega
  have hl8 : ln ≤ 8 := by omega
  have HLN : Hid (ln = chunkN l.length) := Lib.hid hLn
  have hl0 : ((ln : Int) = 0) = False := by simp; omega
  clear hL hl hx hch hLn hln HX1
  go_wp2_with fail
  refine (znew_yes ln ⟨hl1, hl8⟩ w2).mono ?_
  rintro e w3 ⟨h, bm, rfl, z, hx, hh, hb⟩
  have hen := eqlH_some_nil
  have mkb := mk_boolsZ ln (by omega)
  have hxx := hx.alloc (.cells (madeCells #[.bool false] ln) 4)
  have HO := Lib.hid (OrdZ.mk (w2 := w2) (no := no) (j := 0) ⟨0, Nat.le_refl _, z.ext ((Ext.refl w3).alloc (.cells (madeCells #[.bool false] ln) 4))⟩ (PutR.new w3 ln) (HoldZ.new l ln) (fun k _ hk => by omega) hxx ⟨hb, hx.size, Nat.ne_of_lt z.lt, Nat.ne_of_lt z.map.lt, hxx.size⟩)
  clear z hx hh hb hxx
  go_wp2_with fail
  clear mkb
  have hl1' : (1 : Int) ≤ (ln : Int) := by omega
  have hl8' : (ln : Int) ≤ 8 := by omega
  generalize w3.alloc (.cells (madeCells #[.bool false] ln) 4) = V4 at HO ⊢
  generalize w3.heap.size = pb at HO ⊢
  go_loopw [12] (fun v wr => ∃ (j : Nat) (f : Int → Option Lst) (P : List Bool), j ≤ no + ln ∧ v = .int .i64 (j : Int) ∧ Hid (OrdZ w2 wr h ln bm pb no j l f P)) (fun v _ => no + ln - (intOf v).toNat)
  case atStart => exact ⟨0, _, _, by omega, rfl, HO⟩
  case round =>
    obtain ⟨j, f, P, hj, rfl, HO⟩ := hrel
    by_cases hlt : j < no + ln
    · have hlt' : (j : Int) < (no : Int) + (ln : Int) := by omega
      by_cases hjn : j < no
      case' pos =>
        have hjn' : (j : Int) < (no : Int) := by omega
        obtain ⟨g2, o2, x, hA2, hx256, hcell⟩ := by_atZ (HB2.out.ext (HX2.out.trans HO.out.ext)) hjn
        subst hA2
        go_upto_region 19 with (fail)
        obtain ⟨kk, hkk, hsp⟩ : ∃ kk : Nat, kk < ln ∧ ((x : Int) % (ln : Int)) = (kk : Int) := ⟨x % ln, Nat.mod_lt _ (by omega), by omega⟩
        rw [hsp]
        have hjk : j < no ∨ no + kk = j := .inl hjn
        clear hsp hcell hjn hjn' hx256
      case' neg =>
        have hjn' : (no : Int) ≤ (j : Int) := by omega
        go_upto_region 19 with (fail)
        obtain ⟨kk, hkk, hsp⟩ : ∃ kk : Nat, kk < ln ∧ ((j : Int) - (no : Int)) = (kk : Int) := ⟨j - no, by omega, by omega⟩
        rw [hsp]
        have hjk : j < no ∨ no + kk = j := .inr (by omega)
        clear hsp hjn hjn'
      -- chunk kk comes
      all_goals
        have hkk' : (kk : Int) < (ln : Int) := by omega
        obtain ⟨g3, o3, a, hA3, hg3, ha, hby, hcell3⟩ := HLS.out.at_ hkk
        subst hA3
        have hE2 := HO.out.ext
        have hcell3 := ext_of_cell hE2 hcell3
        have hal : a.l = chunkL l kk := by
          have e := lsOf_get ha
          rw [HLL.out, List.getD_eq_getElem?_getD, splitL_get (by rw [← HLN.out]; exact hkk)] at e
          exact e.symm
        have hfit : fitsZ (kk : Int) ln a.n = true := by
          rw [fitsZ_nat]
          have e := split_fits HLE.out (k := kk) (by rw [← HLN.out]; exact hkk)
          rw [← hal, hby.len, ← HLN.out] at e
          exact e
        obtain ⟨nb, hnb, z⟩ := HO.out.heap
        have HPUT := Lib.hid (zput_yes z (by omega) (kk : Int) a.A a.n a.c a.l (By.ext hby hE2) hfit)
        have HNB := Lib.hid hnb
        have HAL := Lib.hid hal
        obtain ⟨aA, an, ac, al⟩ := a
        dsimp only at hcell3
        clear hE2 hal hfit hnb z hby ha hg3
        go_wp2_with fail
        refine (HPUT.out).mono ?_
        rintro e w5 ⟨rfl, a5, ha5, z5, hm5⟩
        obtain ⟨hR5, hkP, HO5⟩ := HO.out.put HNB.out z5 hm5 hkk (ha5.trans HAL.out) hjk
        have hfr := hR5.frozen (k := kk)
        have hcp := hR5.cell hkP
        have HOS := Lib.hid HO5
        have HLP : Hid (P.length = ln) := Lib.hid HO.out.hold.len
        clear hR5 HO5 z5 hm5 ha5 HPUT HNB HAL HO hcell3
        go_wp2_with fail
        clear hfr hcp
        generalize updZ f (kk : Int) (some a5) = f6 at *
        generalize P.set kk true = P6 at *
        generalize w5.setCell ⟨pb, kk, none⟩ (.bool true) = w6 at *
        go_loopw [14, 15] (fun vm vi wr => ∃ i : Nat, i ≤ ln ∧ vi = .int .i64 (i : Int) ∧ vm = .int .i64 ((missZ f6 i).length : Int) ∧ wr = w6) (fun _ vi _ => ln - (intOf vi).toNat)
        case atStart => exact ⟨0, by omega, rfl, rfl, rfl⟩
        case round =>
          obtain ⟨i, hi, rfl, rfl, rfl⟩ := hrel
          by_cases hil : i < ln
          · have hil' : (i : Int) < (ln : Int) := by omega
            have hci := HOS.out.row.cell (k := i) (by rw [HOS.out.hold.len]; exact hil)
            have hsome := HOS.out.hold.some_ i hil
            have hms := missZ_succ f6 i
            have hml : (missZ f6 i).length ≤ i := by
              unfold missZ
              exact Nat.le_trans (List.length_filter_le _ _) (by rw [List.length_range]; exact Nat.le_refl _)
            have hml' : ((missZ f6 i).length : Int) ≤ 8 := by omega
            cases hp : P6.getD i false with
            | true =>
              rw [hp] at hci hsome
              rw [if_neg (by rw [Option.isNone_eq_false_iff.2 hsome]; decide)] at hms
              have HMS := Lib.hid hms
              clear hms hsome
              go_wp2_with fail
              go_roundw
              case rel => exact ⟨i + 1, by omega, by go_num, by rw [HMS.out], by trivial⟩
              case measure => simp [intOf]; omega
            | false =>
              rw [hp] at hci hsome
              rw [if_pos (by cases hh : f6 (i : Int) with | none => rfl | some b => rw [hh] at hsome; cases hsome)] at hms
              have HMS := Lib.hid hms
              clear hms hsome
              go_wp2_with fail
              go_roundw
              case rel => exact ⟨i + 1, by omega, by go_num, by rw [HMS.out, List.length_append, List.length_singleton]; go_num, by trivial⟩
              case measure => simp [intOf]; omega
          · obtain rfl : i = ln := by omega
            obtain ⟨nb6, hnb6, z6⟩ := HOS.out.heap
            have HZ6 := Lib.hid z6
            clear z6 hnb6
            go_wp2_with fail
            refine (zwhole_of HZ6.out).mono ?_
            rintro e w7 ⟨A7, n7, c7, rfl, _, _, hx⟩
            have HO7 := Lib.hid (HOS.out.keep hx)
            have HZ7 := Lib.hid (HZ6.out.ext hx)
            clear hx HZ6 HOS
            go_wp2_with fail
            refine (zmissing_yes HZ7.out).mono ?_
            rintro e w8 ⟨A8, c8, rfl, _, hx⟩
            have HO8 := Lib.hid (HO7.out.keep hx)
            clear hx HZ7 HO7
            have hwe : whE f6 i = if (missZ f6 i).length = 0 then 0 else 120 := by unfold whE; simp only [List.length_eq_zero_iff]
            rw [hwe]
            generalize (missZ f6 i).length = ml at *
            clear hwe
            by_cases hz : ml = 0
            · subst hz
              rw [if_pos rfl]
              go_wp2_with fail
              go_roundw
              case rel => exact ⟨j + 1, f6, P6, by omega, by go_num, HO8⟩
              case measure => simp [intOf]; omega
            · rw [if_neg hz]
              have hz' : ((ml : Int) = 0) = False := by simp; omega
              go_wp2_with fail
              go_roundw
              case rel => exact ⟨j + 1, f6, P6, by omega, by go_num, HO8⟩
              case measure => simp [intOf]; omega
    · obtain rfl : j = no + ln := by omega
      obtain ⟨nb, hnb, z⟩ := HO.out.heap
      have hp : ∀ k, k < ln → P.getD k false = true := fun k hk => HO.out.past k hk (by omega)
      have hf := HO.out.hold.full hp
      have hcat : catZ f ln = l := by
        have hh := HO.out.hold
        rw [HLN.out] at hh hp ⊢
        exact hh.cat HLE.out hp
      have hsm : ∀ j : Nat, j < ln → (f (j : Int)).isSome = true := missZ_nil.1 hf
      have hwe : whE f ln = 0 := by unfold whE; rw [if_pos hf]
      have hwl : whL f ln = l := by unfold whL; rw [if_pos hf]; exact hcat
      have hw := zwhole_of z
      rw [hwe, hwl] at hw
      have HW := Lib.hid hw
      have HZ := Lib.hid z
      have HSM := Lib.hid hsm
      have HE : Hid (Ext w2 wr) := Lib.hid HO.out.ext
      have HLO : Hid (w2.heap.size ≤ bm) := Lib.hid HO.out.lo.1
      clear z hnb hp hf hcat hsm hwe hwl hw HO
      go_wp2_with fail
      refine (HW.out).mono ?_
      rintro e w5 ⟨A5, n5, c5, rfl, hby, _, hx⟩
      have HZ5 := Lib.hid (HZ.out.ext hx)
      have HE5 : Hid (Ext w2 w5) := Lib.hid (HE.out.trans hx)
      have hs := same_by A5 A l l n5 n c5 c w5 hby (HB1.out.ext (HX2.out.trans HE5.out))
      rw [decide_eq_true (rfl : l = l)] at hs
      have HS := Lib.hid hs
      clear hs hby hx HW HZ HE
      go_wp2_with fail
      refine (HS.out).mono ?_
      rintro e w6 ⟨rfl, hx⟩
      have HZ6 := Lib.hid (HZ5.out.ext hx)
      have HE6 : Hid (Ext w2 w6) := Lib.hid (HE5.out.trans hx)
      clear hx HS HZ5 HE5
      go_upto_region 35 with (fail)
      obtain ⟨q, hq, hqe⟩ := wrap_modZ lost ln (by omega) (by omega)
      rw [hqe]
      have hmo := miss_one hq HSM.out
      have hin : inZ 0 (q : Int) ((ln : Int) - 1) = true := inZ_iff.2 (by omega)
      have HLO2 := Lib.hid (zlose_yes HZ6.out (q : Int) hin)
      clear hin hqe
      go_wp2_with fail
      refine (HLO2.out).mono ?_
      rintro e w7 ⟨rfl, z7, hm⟩
      have HE7 : Hid (Ext w2 w7) := Lib.hid (Below.trans HE6.out (below_of_modZ hm HLO.out HE6.out.size))
      have hmi := zmissing_yes z7
      rw [hmo] at hmi
      have HMI := Lib.hid hmi
      have HZ7 := Lib.hid z7
      have hwe : whE (updZ f (q : Int) none) ln = 120 := by unfold whE; rw [hmo]; rfl
      have HWE := Lib.hid hwe
      clear z7 hm hmi hmo hwe HLO2 HZ6 HE6
      go_wp2_with fail
      refine (HMI.out).mono ?_
      rintro e w8 ⟨A8, c8, rfl, hrow, hx⟩
      obtain ⟨A9, c9, e9, _, _⟩ := own_form hrow
      rcases hrow.2 with ⟨_, h0⟩ | ⟨g8, cap8, cur8, hv8, _⟩
      · cases h0
      · injection hv8 with hA8 _ _
        subst hA8
        have hc8 : w8.cell? ⟨g8, 0, none⟩ = some (.int .i64 (q : Int)) := hrow.cellAt 0 (by simp)
        have HC8 := Lib.hid hc8
        have HE8 : Hid (Ext w2 w8) := Lib.hid (HE7.out.trans hx)
        have hw := zwhole_of (HZ7.out.ext hx)
        rw [HWE.out] at hw
        have HW8 := Lib.hid hw
        have hcap : 1 ≤ c8 := by
          obtain ⟨A', c', e', hcap, _⟩ := own_form hrow
          injection e' with _ _ e'
          subst e'
          exact hcap
        clear hc8 hw hrow hx HZ7 HE7 HMI HWE e9
        go_wp2_with fail
        refine (HW8.out).mono ?_
        rintro e w9 ⟨A9, n9, c9, rfl, _, _, hx⟩
        have hc9 := ext_of_cell hx HC8.out
        have HE9 : Hid (Ext w w9) := Lib.hid (HX2.out.trans (HE8.out.trans hx))
        clear hx HW8 HC8 HE8
        go_wp2_with fail
        go_ret
        exact ⟨rfl, HE9.out⟩
end Go.Proofs.Ytnlappoocffcpaa
