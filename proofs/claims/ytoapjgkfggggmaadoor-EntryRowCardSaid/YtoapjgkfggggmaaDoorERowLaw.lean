/-
  The walk of EntryRow: entries' bytes are read one behind the other, whatever stands ahead of them.
-/
import Derived.Test.YtoapjgkfggggmaaDoorEAwake
import Derived.Test.YtoapjgkfggggmaaDoorERBytes
import Derived.Test.YtoapjgkfggggmaaDoorERow
import Derived.Test.YtoapjgkfggggmaaDoorEOpen
import Derived.RegionTactic
import Derived.Deep.DeepCutAuto
namespace Go.Proofs.YtoapjgkfggggmaaDoor
open Go Go.RowKit

theorem ent_cells {w : World} {g o j n c B : Nat} {A : Option Addr} {l : List Ent} (h : Ls Ent.cells 7 w B A n c l) (hj : j < n) (hA : A = some ⟨g, o, none⟩) : ∃ e : Ent, l[j]? = some e ∧
    w.cell? ⟨g, o + j * 7, none⟩ = some (.int .u8 (e.k : Nat)) ∧ w.cell? ⟨g, o + j * 7 + 1, none⟩ = some (.int .i64 e.cl) ∧ w.cell? ⟨g, o + j * 7 + 2, none⟩ = some (.int .i64 e.sq) ∧ w.cell? ⟨g, o + j * 7 + 3, none⟩ = some (.int .u8 (e.ok : Nat)) ∧
    w.cell? ⟨g, o + j * 7 + 4, none⟩ = some (.string e.key) ∧ w.cell? ⟨g, o + j * 7 + 5, none⟩ = some (.string e.old) ∧ w.cell? ⟨g, o + j * 7 + 6, none⟩ = some (.string e.val) := by
  obtain ⟨g', o', e, h1, _, h2, h3⟩ := h.at_ hj
  rw [hA] at h1
  injection h1 with h1
  injection h1 with h1 h4
  subst h1 h4
  exact ⟨e, h2, h3 0 _ rfl, h3 1 _ rfl, h3 2 _ rfl, h3 3 _ rfl, h3 4 _ rfl, h3 5 _ rfl, h3 6 _ rfl⟩
set_option maxRecDepth 100000 in
set_option maxHeartbeats 3200000 in
theorem entryRow_law (A : Option Addr) (n c : Nat) (l : List Ent) (A2 : Option Addr) (n2 c2 : Nat) (ah : List Nat) (w : World) (hl : Ls Ent.cells 7 w w.heap.size A n c l ∧ ∀ a ∈ l, a.Wf) (hb : Bs w w.heap.size A2 n2 c2 ah) (hL : Laid w) :
    Calls Tryd.prog 6 #[.slice A n c, .slice A2 n2 c2] w fun r w' => r = .returned (.bool true) ∧ Below w.heap.size w w' := by
  show Calls Tryd.prog 6 #[.slice A n c, .slice A2 n2 c2] w fun r w' => r = .returned (.bool true) ∧ Ext w w'
  obtain ⟨i0, hi, hz0, hz1, hz2⟩ := info_parts byte_info
  obtain ⟨hls, hwf⟩ := hl
  have hcap := hls.cap
  have hmost := hls.most
  have hcap2 := hb.cap
  have hmost2 := hb.most
  have HB : Hid (By w A2 n2 c2 ah) := Lib.hid hb
  have HLN := Lib.hid hb.len
  have HLT := Lib.hid hb.rd.lt
  have HLS := Lib.hid hls
  have HWF := Lib.hid hwf
  have HL := Lib.hid hL
  have HLL := Lib.hid hls.len
  clear hls hwf hb hL
  by_cases hn : 20 < n
  · go_enter Tryd.func6, Tryd.ntmps6
    go_wp2_with fail
    refine (eawake_any _ HL.out).mono ?_
    rintro r w1 ⟨rfl, hx⟩
    have HE := Lib.hid hx
    clear hx
    go_wp2_with fail
    go_ret
    exact ⟨rfl, HE.out⟩
  by_cases hn2 : 100 < n2
  · go_enter Tryd.func6, Tryd.ntmps6
    go_wp2_with fail
    refine (eawake_any _ HL.out).mono ?_
    rintro r w1 ⟨rfl, hx⟩
    have HE := Lib.hid hx
    clear hx
    go_wp2_with fail
    go_ret
    exact ⟨rfl, HE.out⟩
  go_enter Tryd.func6, Tryd.ntmps6
  go_wp2_with fail
  refine (eawake_any _ HL.out).mono ?_
  rintro r w1 ⟨rfl, hx⟩
  have HE := Lib.hid hx
  have HB := Lib.hid (HB.out.ext hx)
  have HL := Lib.hid (HL.out.ext hx)
  clear hx
  go_wp2_with fail
  refine (copy_by A2 ah n2 c2 _ HB.out (by omega)).mono ?_
  rintro r w2 ⟨A3, c3, rfl, _, hx, hown⟩
  have HA : Hid (AppS w1 w2 A3 n2 c3 ah) := Lib.hid ⟨hown, hx, HLT.out⟩
  clear hown hx
  go_wp2_with fail
  go_loopw [5, 6] (fun v i wr => ∃ (j : Nat) (Aa : Option Addr) (na ca : Nat), j ≤ n ∧ i = .int .i64 j ∧ v = .slice Aa na ca ∧ na ≤ 100 + 52 * j ∧ Hid (AppS w1 wr Aa na ca (ah ++ allL (l.take j))) ∧ Hid (∀ e ∈ l.take j, enOk e = true)) (fun _ i _ => n - (intOf i).toNat)
  case atStart => exact ⟨0, A3, n2, c3, Nat.zero_le _, rfl, rfl, by omega, by rw [List.take_zero, show allL [] = [] from rfl, List.append_nil]; exact HA, Lib.hid (by intro e he; simp at he)⟩
  case round =>
    obtain ⟨j, Aa, na, ca, hj, rfl, rfl, hna, HA, HO⟩ := hrel
    by_cases hlt : j < n
    · obtain ⟨g, o, _, hA, _⟩ := HLS.out.at_ hlt
      subst hA
      have HEr := Lib.hid (HE.out.trans HA.out.ext)
      obtain ⟨e, he, q0, q1, q2, q3, q4, q5, q6⟩ := ent_cells (HLS.out.below HEr.out) hlt rfl
      obtain ⟨k, cl, sq, ok, key, old, val⟩ := e
      dsimp only at q0 q1 q2 q3 q4 q5 q6
      have HI := Lib.hid he
      clear he
      cases hgr : grE key old val with
      | true =>
        have HG := Lib.hid hgr
        clear hgr
        go_wp2_with fail
        refine (great_any _ _ _ _ _ _ _ _).mono ?_
        rw [HG.out]
        rintro r w4 ⟨rfl, hx⟩
        have HEr := Lib.hid (HEr.out.trans hx)
        clear hx
        go_wp2_with fail
        go_ret
        exact ⟨rfl, HEr.out⟩
      | false =>
        have HG := Lib.hid hgr
        clear hgr
        cases hk : enOk ⟨k, cl, sq, ok, key, old, val⟩ with
        | false =>
          have HK := Lib.hid hk
          clear hk
          go_wp2_with fail
          refine (great_any _ _ _ _ _ _ _ _).mono ?_
          rw [HG.out]
          rintro r w4 ⟨rfl, hx⟩
          have HEr := Lib.hid (HEr.out.trans hx)
          clear hx q0 q1 q2 q3 q4 q5 q6
          obtain ⟨e, he, q0, q1, q2, q3, q4, q5, q6⟩ := ent_cells (HLS.out.below HEr.out) hlt rfl
          obtain rfl : e = ⟨k, cl, sq, ok, key, old, val⟩ := Option.some.inj (he.symm.trans HI.out)
          dsimp only at q0 q1 q2 q3 q4 q5 q6
          clear he
          go_wp2_with fail
          refine (may_any _ _ _ _ _ _ _ _).mono ?_
          rw [HK.out]
          rintro r w5 ⟨rfl, hx⟩
          have HEr := Lib.hid (HEr.out.trans hx)
          clear hx
          go_wp2_with fail
          go_ret
          exact ⟨rfl, HEr.out⟩
        | true =>
          have HK := Lib.hid hk
          have hby := fun V (hV : Laid V) => bytes_any k cl sq ok key old val V hV (HWF.out _ (List.mem_of_getElem? HI.out)).ok
          rw [eL_yes hk, eR_yes hk] at hby
          have HBY := Lib.hid hby
          have hln := enL_len hk
          have HSN : Hid (allL (l.take (j + 1)) = allL (l.take j) ++ enL ⟨k, cl, sq, ok, key, old, val⟩) := Lib.hid (allL_snoc HI.out)
          have HON : Hid (∀ e ∈ l.take (j + 1), enOk e = true) := Lib.hid (by
            intro e he
            rw [List.take_add_one, HI.out] at he
            rcases List.mem_append.1 he with h | h
            · exact HO.out e h
            · simp at h; rw [h]; exact hk)
          generalize enL ⟨k, cl, sq, ok, key, old, val⟩ = E at *
          obtain ⟨m, hm⟩ : ∃ m, E.length = m := ⟨_, rfl⟩
          rw [hm] at HBY hln
          obtain ⟨_, hln2⟩ := hln
          clear hk hby hm
          go_wp2_with fail
          refine (great_any _ _ _ _ _ _ _ _).mono ?_
          rw [HG.out]
          rintro r w4 ⟨rfl, hx⟩
          have HA := Lib.hid (HA.out.more hx)
          have HEr := Lib.hid (HEr.out.trans hx)
          clear hx q0 q1 q2 q3 q4 q5 q6
          obtain ⟨e, he, q0, q1, q2, q3, q4, q5, q6⟩ := ent_cells (HLS.out.below HEr.out) hlt rfl
          obtain rfl : e = ⟨k, cl, sq, ok, key, old, val⟩ := Option.some.inj (he.symm.trans HI.out)
          dsimp only at q0 q1 q2 q3 q4 q5 q6
          clear he
          go_wp2_with fail
          refine (may_any _ _ _ _ _ _ _ _).mono ?_
          rw [HK.out]
          rintro r w5 ⟨rfl, hx⟩
          have HA := Lib.hid (HA.out.more hx)
          have HEr := Lib.hid (HEr.out.trans hx)
          clear hx q0 q1 q2 q3 q4 q5 q6
          obtain ⟨e, he, q0, q1, q2, q3, q4, q5, q6⟩ := ent_cells (HLS.out.below HEr.out) hlt rfl
          obtain rfl : e = ⟨k, cl, sq, ok, key, old, val⟩ := Option.some.inj (he.symm.trans HI.out)
          dsimp only at q0 q1 q2 q3 q4 q5 q6
          clear he
          go_wp2_with fail
          refine (HBY.out _ (HL.out.ext HA.out.ext)).mono ?_
          rintro r w6 ⟨A6, c6, rfl, hb, hx⟩
          have HB6 := Lib.hid hb
          have HA := Lib.hid (HA.out.more hx)
          have hsz := HA.out.ext.size
          clear hb hx q0 q1 q2 q3 q4 q5 q6
          go_wp2_with (at_builtin; refine wpList_append_by rfl _ _ 29 rfl w1.heap.size 5 i0 Tryd.underlying29 hi hz0 hz1 hz2 _ na (vb (ah ++ allL (l.take j))) rfl HA.out.own _ m _ E rfl HB6.out (by omega) hsz ?_)
          intro v7 w7 hown hg
          obtain ⟨A7, c7, rfl, ha, _⟩ := HA.out.next hown hg HB6.out.rd.lt
          have HA : Hid (AppS w1 w7 A7 (na + m) c7 (ah ++ allL (l.take (j + 1)))) := Lib.hid (by rw [HSN.out, ← List.append_assoc]; exact ha)
          clear hown hg ha hsz
          go_wp2_with fail
          go_roundw
          case rel => exact ⟨j + 1, A7, na + m, c7, by omega, by go_num, rfl, by omega, HA, HON⟩
          case measure => simp [intOf]; omega
    · have hjn : j = n := by omega
      subst hjn
      have ha := HA.out
      have ho := HO.out
      rw [List.take_of_length_le (Nat.le_of_eq HLL.out)] at ha ho
      obtain ⟨W3, hW3⟩ : ∃ W, W = wr := ⟨_, rfl⟩
      subst hW3
      have HAF := Lib.hid ha
      have HOF := Lib.hid ho
      have hnl : na = n2 + (allL l).length := by
        have := ha.by_.len
        rw [List.length_append, HLN.out] at this
        omega
      have HNL := Lib.hid hnl
      clear ha ho hnl hlt
      have HE3 := Lib.hid (HE.out.trans HAF.out.ext)
      have HL3 := Lib.hid (HL.out.ext HAF.out.ext)
      go_wp2_with fail
      go_loopw [9, 10] (fun v i wr => ∃ q : Nat, q ≤ j ∧ i = .int .i64 q ∧ v = .int .i64 ((n2 + (allL (l.take q)).length : Nat) : Int) ∧ Hid (Ext W3 wr)) (fun _ i _ => j - (intOf i).toNat)
      case atStart => exact ⟨0, Nat.zero_le _, rfl, rfl, Lib.hid (Ext.refl _)⟩
      case round =>
        obtain ⟨q, hq, rfl, rfl, HX⟩ := hrel
        have hna2 : na ≤ 1140 := by omega
        obtain ⟨p, hp⟩ : ∃ p, n2 + (allL (l.take q)).length = p := ⟨_, rfl⟩
        by_cases hlt : q < j
        · obtain ⟨g, o, e, hA, _, he, _⟩ := HLS.out.at_ hlt
          have hrd := row_read ah he (HOF.out _ (List.mem_of_getElem? he))
          have hsn := allL_snoc he
          have hel := enL_len (HOF.out _ (List.mem_of_getElem? he))
          obtain ⟨p2, hp2⟩ : ∃ p2, n2 + (allL (l.take (q + 1))).length = p2 := ⟨_, rfl⟩
          rw [HLN.out, hp, hp2] at hrd
          have hlt2 : p < p2 := by
            rw [← hp, ← hp2, hsn, List.length_append]
            omega
          obtain ⟨k, cl, sq, ok, key, old, val⟩ := e
          have HRD := Lib.hid hrd
          have HI := Lib.hid he
          have HP2 := Lib.hid hp2
          clear hrd hsn hel he hp2
          rw [hp]
          clear hp
          go_wp2_with fail
          refine (read_any Aa na ca (ah ++ allL l) (p : Int) _ (HL3.out.ext HX.out) (HAF.out.by_.ext HX.out) (by omega)).mono ?_
          rw [HRD.out]
          dsimp only
          rintro r w4 ⟨rfl, hx⟩
          have HTT := Lib.hid (heap_alloc_new w4 (.cells #[.int .u8 (k : Int), .int .i64 cl, .int .i64 sq, .int .u8 (ok : Int), .string key, .string old, .string val] 27))
          have HX := Lib.hid ((HX.out.trans hx).trans ((Ext.refl w4).alloc (.cells #[.int .u8 (k : Int), .int .i64 cl, .int .i64 sq, .int .u8 (ok : Int), .string key, .string old, .string val] 27)))
          clear hx
          go_upto_region 20 with (fail)
          generalize (w4.alloc (.cells #[.int .u8 (k : Int), .int .i64 cl, .int .i64 sq, .int .u8 (ok : Int), .string key, .string old, .string val] 27)) = w5 at *
          generalize w4.heap.size = g4 at *
          subst hA
          have HE5 := Lib.hid (HE3.out.trans HX.out)
          obtain ⟨e, he, q0, q1, q2, q3, q4, q5, q6⟩ := ent_cells (HLS.out.below HE5.out) hlt rfl
          obtain rfl : e = ⟨k, cl, sq, ok, key, old, val⟩ := Option.some.inj (he.symm.trans HI.out)
          dsimp only at q0 q1 q2 q3 q4 q5 q6
          obtain ⟨t0, t1, t2, t3, t4, t5, t6⟩ := seven_cells HTT.out
          have hq1 := ent_neq_self k cl sq ok key old val
          have hg1 : Tryd.prog.eqGuardType Tryd.prog.depth 27 = false := by kernel_rfl
          have hle : decide ((p2 : Int) ≤ (p : Int)) = false := decide_eq_false (by omega)
          clear he
          go_region
          clear q0 q1 q2 q3 q4 q5 q6 t0 t1 t2 t3 t4 t5 t6 hq1 hg1
          go_wp2_with fail
          go_roundw
          case rel => exact ⟨q + 1, by omega, by go_num, by rw [HP2.out], Lib.hid HX.out.drew⟩
          case measure => simp [intOf]; omega
        · have hqj : q = j := by omega
          subst hqj
          have hre := row_end ah l
          rw [HLN.out, ← HNL.out] at hre
          have HRE := Lib.hid hre
          rw [List.take_of_length_le (Nat.le_of_eq HLL.out), ← HNL.out] at hp
          subst hp
          rw [List.take_of_length_le (Nat.le_of_eq HLL.out), ← HNL.out]
          clear hre
          go_wp2_with fail
          refine (read_any Aa na ca (ah ++ allL l) (na : Int) _ (HL3.out.ext HX.out) (HAF.out.by_.ext HX.out) (by omega)).mono ?_
          rw [HRE.out]
          dsimp only
          rintro r w4 ⟨rfl, hx⟩
          have HX := Lib.hid ((HX.out.trans hx).trans ((Ext.refl w4).alloc (.cells #[.int .u8 0, .int .i64 0, .int .i64 0, .int .u8 0, .string ByteArray.empty, .string ByteArray.empty, .string ByteArray.empty] 27)))
          clear hx
          go_upto_region 24 with (fail)
          generalize (w4.alloc (.cells #[.int .u8 0, .int .i64 0, .int .i64 0, .int .u8 0, .string ByteArray.empty, .string ByteArray.empty, .string ByteArray.empty] 27)) = w5 at *
          go_wp2_with fail
          go_ret
          exact ⟨rfl, HE3.out.trans HX.out⟩
end Go.Proofs.YtoapjgkfggggmaaDoor
