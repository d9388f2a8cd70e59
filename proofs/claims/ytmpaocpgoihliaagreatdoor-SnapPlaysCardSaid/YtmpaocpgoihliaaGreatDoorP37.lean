/-
  The contract of the document's shelf's Install: the first one.
-/
import Derived.Test.YtmpaocpgoihliaaGreatDoorP00
import Derived.Test.YtmpaocpgoihliaaGreatDoorP06
import Derived.Test.YtmpaocpgoihliaaGreatDoorP11
import Derived.Test.YtmpaocpgoihliaaGreatDoorP17
import Derived.Test.YtmpaocpgoihliaaGreatDoorP26
import Derived.Test.YtmpaocpgoihliaaGreatDoorP27
import Derived.Test.YtmpaocpgoihliaaGreatDoorP28
import Derived.Test.YtmpaocpgoihliaaGreatDoorP29
import Derived.Test.YtmpaocpgoihliaaGreatDoorP30
import Derived.Test.YtmpaocpgoihliaaGreatDoorP33
import Derived.Test.YtmpaocpgoihliaaGreatDoorP35
import Derived.Test.YtmpaocpgoihliaaGreatDoorP36
namespace Go.Proofs.YtmpaocpgoihliaaGreatDoor
set_option maxRecDepth 100000
section
open Go Go.RowKit
section
variable {w : World} {y d : Nat} {r inc : Int} {s : ShM} {q : Nat → Nat} {m : DM}
set_option maxHeartbeats 3200000 in
theorem rsinstall_up0 (hup : m.up = true) (hz : s.ix = 0) (h : RShAt w y d r inc s) (hd : RD w d q m) (hy : q y = 0) (hs : s = {} ∨ manOk s = true) (hr : 0 ≤ r ∧ r ≤ 6) (hc : 1 ≤ inc ∧ inc ≤ 1099511627776) (hsz : m.size = 156)
 (i : Nat) (hi : s.ix < i ∧ i ≤ 1099511627752) (A : Option Addr) (n c : Nat) (bs : List Nat) (hb : By w A n c bs) (hn : n ≤ 640) (hfew : m.waits.length ≤ 900000) :
 Calls Tryz.prog 27 #[.pointer (some ⟨y, 0, none⟩), .int .i64 (i : Int), .slice A n c] w fun e w' => e = .returned (.int .i64 (m.putY r inc (nextY s i (chunkN bs.length)) (splitL bs)).1) ∧
  RIns w y d r inc q (m.putY r inc (nextY s i (chunkN bs.length)) (splitL bs)).2 (if (m.putY r inc (nextY s i (chunkN bs.length)) (splitL bs)).1 = 0 then nextY s i (chunkN bs.length) else s) w' := by
 obtain ⟨i0, hi0, hz0, hz1, hz2⟩ := info_parts byte_info
 have hok := nextY_ok hs hi (b := bs) (by rw [hb.len]; exact hn)
 have hlt := hb.rd.lt
 have hse : ∀ k c, k < 8 → c ∈ splitL bs → sealE r 5 ((8 * (nextY s i (chunkN bs.length)).ar + k : Nat) : Int) ((nextY s i (chunkN bs.length)).ix : Int) inc (prZL ((nextY s i (chunkN bs.length)).ct : Int) c).length 2 = 0 := fun k c hk hcm => sealY hr hc hok hk (split_each hlt c hcm).1
 have har : s.ar ≤ 1 := by
  rcases hs with rfl | hs
  ·exact Nat.zero_le _
  ·have := manOk_iff.1 hs; omega
 have HSP := Lib.hid (zrsplit_yes A n c bs hb hn)
 have hcn := chunkN_in (n := bs.length) (by rw [hb.len]; exact hn)
 have hex : ∀ l ∈ splitL bs, l.length ≤ 80 := fun l hl => (split_each hlt l hl).1
 have hspl := splitL_len bs
 obtain ⟨ar2, har2⟩ : ∃ ar2, (if s.ix = 0 then 0 else 1 - s.ar) = ar2 := ⟨_, rfl⟩
 have har21 : ar2 ≤ 1 := by rw [← har2]; split <;> omega
 have hnx : nextY s i (chunkN bs.length) = ⟨i, ar2, chunkN bs.length⟩ := by unfold nextY; rw [har2]
 rw [hnx] at hok hse ⊢
 dsimp only at hse
 have hcn1 : 1 ≤ chunkN bs.length ∧ chunkN bs.length ≤ 8 := by omega
 have hdown := put_down (m := m) (r := r) (inc := inc) (s := ⟨i, ar2, chunkN bs.length⟩) (l := splitL bs)
 obtain ⟨c0, c1, c2, c3, c4, c5⟩ := h.cells
 have HDN : Hid (∀ V, Ext w V → Calls Tryz.prog 80 #[.pointer (some ⟨y, 0, none⟩)] V fun e w' => e = .returned (.bool (!m.up)) ∧ V = w') := Lib.hid fun V hV => rsdown_of (h.ext hV) (hd.ext hV)
 have HOK := Lib.hid hok
 have HSE := Lib.hid hse
 have HD := Lib.hid hd
 have H := Lib.hid h
 have HY := Lib.hid hy
 have HK := Lib.hid (And.intro hr (And.intro hc hsz))
 have HFW := Lib.hid hfew
 have HEX := Lib.hid hex
 have HSL := Lib.hid hspl
 have HAR2 := Lib.hid har2
 obtain ⟨Z, hZ⟩ : ∃ Z, m.putY r inc ⟨i, ar2, chunkN bs.length⟩ (splitL bs) = Z := ⟨_, rfl⟩
 obtain ⟨s', hs'⟩ : ∃ s' : ShM, (if Z.1 = 0 then ⟨i, ar2, chunkN bs.length⟩ else s) = s' := ⟨_, rfl⟩
 rw [hZ] at hdown
 rw [hZ, hs']
 have HZS := Lib.hid (And.intro hZ hs')
 have HDW := Lib.hid hdown
 have hix : (s.ix : Int) < (i : Int) := by omega
 have hix2 : (i : Int) ≤ 1099511627752 := by omega
 have hix3 : i ≤ 1099511627752 := hi.2
 generalize chunkN bs.length = cn at *
 clear h hd hy hs hr hc hsz hb hfew hok hlt hse hex hspl har2 hnx c0 c1 c2 c4 c5 hdown hZ hs' hcn hi hn
 go_enter Tryz.func27, Tryz.ntmps27
 go_wp2_with fail
 refine HSP.out.mono ?_
 rintro e w1 ⟨v, L, rfl, hO, hl, hx⟩
 obtain ⟨A1, c1, rfl, hls⟩ := hO.lsts
 have hA1 : Off (fun k => q k ≠ 0) A1 := fun p hp hf => by
  have h1 := (hO.row.lt p.block (by rw [hp]; rfl)).1
  have h2 := HD.out.2 _ hf
  omega
 have hO1 : ∀ a ∈ L, 0 < a.n → Off (fun k => q k ≠ 0) a.A := fun a ha _ p hp hf => by
  have h1 := ((hO.each a ha).1.lt p.block (by unfold Lst.val; rw [hp]; rfl)).1
  have h2 := HD.out.2 _ hf
  omega
 have hll : L.length = cn := by
  have := congrArg List.length hl
  unfold lsOf at this
  rw [List.length_map] at this
  rw [this, HSL.out]
 rw [hll] at hls
 have HLS := Lib.hid (And.intro hls (And.intro hA1 (And.intro hO1 hl)))
 have HX1 := Lib.hid hx
 have hdn := HDN.out w1 hx
 clear hO hls hA1 hO1 hl hx c3
 rw [hll]
 rw [hup] at hdn
 have HDN := Lib.hid hdn
 clear hdn hup HDW
 go_wp2_with fail
 refine HDN.out.mono ?_
 rintro e w2 ⟨rfl, rfl⟩
 have d3 := (H.out.ext HX1.out).cells.2.2.2.1
 have d4 := (H.out.ext HX1.out).cells.2.2.2.2.1
 have har' : (s.ar : Int) ≤ 1 := by omega
 have harn : s.ar ≤ 1 := har
 have har0 : 0 ≤ s.ar := Nat.zero_le _
 have ha2 : ar2 = 0 := by rw [← HAR2.out, if_pos hz]
 have HAZ : Hid ((ar2 : Int) = 0) := Lib.hid (by omega)
 clear ha2
 rw [hz] at d3
 go_upto_region 11 with (fail)
 clear d3 d4
 go_wp2_with fail
 go_loopw [10] (fun v wr => ∃ (j : Nat) (q1 : Nat → Nat), j ≤ cn ∧ v = .int .i64 (j : Int) ∧ Hid ((wrsY r inc ⟨i, ar2, cn⟩ (0, m) 0 ((splitL bs).take j)).1 = 0) ∧ Hid (RQ w1 wr d q q1 (wrsY r inc ⟨i, ar2, cn⟩ (0, m) 0 ((splitL bs).take j)).2)) (fun v _ => cn - (intOf v).toNat)
 case atStart => exact ⟨0, q, by omega, rfl, Lib.hid rfl, Lib.hid (RQ.start (HD.out.ext HX1.out))⟩
 case round =>
  obtain ⟨j, q1, hj, rfl, HX0, HR⟩ := hrel
  have HSH : Hid (RShAt wr y d r inc s ∧ q1 y = 0) := Lib.hid ⟨(H.out.ext HX1.out).mod HR.out.mod fun e => e HY.out, part_keep HR.out.sub HY.out (H.out.ext HX1.out).lt⟩
  by_cases hlt : j < cn
  ·obtain ⟨gl, ol, a, eA, ha, hby, hcell⟩ := Lsts.modY HLS.out.1 HR.out.mod HLS.out.2.1 HLS.out.2.2.1 hlt
   have hget : (splitL bs)[j]? = some a.l := by rw [← HLS.out.2.2.2]; exact lsOf_atY ha
   have hmem : a.l ∈ splitL bs := List.mem_of_getElem? hget
   have hx1 : wrsY r inc ⟨i, ar2, cn⟩ (0, m) 0 ((splitL bs).take (j + 1)) = wrsE (wrsY r inc ⟨i, ar2, cn⟩ (0, m) 0 ((splitL bs).take j)) (firstS 5 ((8 * ar2 + j : Nat) : Int)) (frmY r inc ⟨i, ar2, cn⟩ j a.l) 2 := by
    rw [List.take_add_one, hget, Option.toList_some, wrsY_snoc, List.length_take, HSL.out, Nat.min_eq_left (by omega), Nat.zero_add]
   have hwt := wrsY_waits (r := r) (inc := inc) (s := ⟨i, ar2, cn⟩) ((splitL bs).take j) (0, m) 0
   rw [List.length_take] at hwt
   have hstop : (wrsY r inc ⟨i, ar2, cn⟩ (0, m) 0 ((splitL bs).take (j + 1))).1 ≠ 0 → Z = wrsY r inc ⟨i, ar2, cn⟩ (0, m) 0 ((splitL bs).take (j + 1)) := fun he => by
    have hw : m.wrY r inc ⟨i, ar2, cn⟩ 0 (splitL bs) = wrsY r inc ⟨i, ar2, cn⟩ (0, m) 0 ((splitL bs).take (j + 1)) := by
     unfold DM.wrY
     rw [wrsY_stop he]
     exact if_neg he
    rw [← HZS.out.1]
    unfold DM.putY
    rw [hw, if_pos he]
   have hse := HSE.out j a.l (by omega) hmem
   have hlen := HEX.out _ hmem
   generalize wrsY r inc ⟨i, ar2, cn⟩ (0, m) 0 ((splitL bs).take j) = X at *
   obtain ⟨X0, mj⟩ := X
   obtain rfl : X0 = 0 := HX0.out
   have hpt := rsput_of HSH.out.1 HR.out.rd HSH.out.2 i ar2 cn j har21 (by omega) a.A a.n a.c a.l hby (by have := hby.len; omega) hse (by have := HFW.out; dsimp only at hwt ⊢; omega)
   generalize wrsE (0, mj) (firstS 5 ((8 * ar2 + j : Nat) : Int)) (frmY r inc ⟨i, ar2, cn⟩ j a.l) 2 = Y at *
   obtain ⟨E2, m2⟩ := Y
   rw [hx1] at hstop
   rw [HAZ.out] at hpt
   have HPT := Lib.hid hpt
   have HST := Lib.hid hstop
   have HX2 := Lib.hid hx1
   subst eA
   clear hpt hstop hx1 hwt hse hlen hget hmem hby ha HX0
   go_wp2_with fail
   refine HPT.out.mono ?_
   rintro e w3 ⟨rfl, hs⟩
   obtain ⟨q2, hr3, _⟩ := HR.out.out hs
   have HR3 := Lib.hid hr3
   clear hs hr3
   by_cases h0 : E2 = 0
   ·subst h0
    go_wp2_with fail
    go_roundw
    case rel => exact ⟨j + 1, q2, by omega, by go_num, Lib.hid (by rw [HX2.out]), by rw [HX2.out]; exact HR3⟩
    case measure => simp [intOf]; omega
   ·have hne : (E2 != 0) = true := by simpa using h0
    have hZ := HST.out h0
    have hs2 : s = s' := by rw [← HZS.out.2, hZ]; exact (if_neg h0).symm
    subst hs2
    have HZ2 := Lib.hid hZ
    clear h0 hZ
    go_wp2_with fail
    go_ret
    exact ⟨by rw [HZ2.out]; rfl, by rw [HZ2.out]; exact (HR3.out.base HX1.out).ins H.out HY.out⟩
  ·obtain rfl : j = cn := by omega
   have htk : (splitL bs).take j = splitL bs := List.take_of_length_le (by rw [HSL.out]; exact Nat.le_refl _)
   rw [htk] at HX0 HR
   have hwt := wrsY_waits (r := r) (inc := inc) (s := ⟨i, ar2, j⟩) (splitL bs) (0, m) 0
   have hwy : m.wrY r inc ⟨i, ar2, j⟩ 0 (splitL bs) = (wrsY r inc ⟨i, ar2, j⟩ (0, m) 0 (splitL bs)).2.flush := by
    unfold DM.wrY unE
    rw [if_pos HX0.out]
   have hsz := wrY_size m r inc ⟨i, ar2, j⟩ 0 (splitL bs)
   have hww := wrY_waits m r inc ⟨i, ar2, j⟩ 0 (splitL bs)
   have hpz : Z = if (m.wrY r inc ⟨i, ar2, j⟩ 0 (splitL bs)).1 ≠ 0 then m.wrY r inc ⟨i, ar2, j⟩ 0 (splitL bs) else (m.wrY r inc ⟨i, ar2, j⟩ 0 (splitL bs)).2.store r 2 inc (manL ⟨i, ar2, j⟩) := HZS.out.1.symm
   rw [HSL.out] at hwt hww
   rw [hwy] at hsz hww hpz
   generalize wrsY r inc ⟨i, ar2, j⟩ (0, m) 0 (splitL bs) = X at *
   obtain ⟨X0, mX⟩ := X
   have hfl := rflush_out HR.out.rd (by have := HFW.out; dsimp only at hwt ⊢; omega)
   dsimp only at hfl hsz hww hpz
   generalize mX.flush = Y at *
   obtain ⟨E4, m4⟩ := Y
   have HFL := Lib.hid hfl
   have HPZ := Lib.hid hpz
   have HQ4 : Hid (m4.size = 156 ∧ m4.waits.length + 2 ≤ 1000000) := Lib.hid ⟨by have := HK.out.2.2; dsimp only at hsz; omega, by have := HFW.out; dsimp only at hww; omega⟩
   have c0 := HSH.out.1.cells.1
   clear htk hwt hwy hsz hww hpz hfl HX0
   go_wp2_with fail
   refine HFL.out.mono ?_
   rintro e w4 ⟨rfl, hs⟩
   obtain ⟨q4, hr4, hsub4, hm4⟩ := HR.out.out hs
   have HR4 := Lib.hid hr4
   have HSH4 : Hid (RShAt w4 y d r inc s ∧ q4 y = 0) := Lib.hid ⟨HSH.out.1.mod hm4 fun e => e HSH.out.2, part_keep hsub4 HSH.out.2 HSH.out.1.lt⟩
   clear hs hr4 hsub4 hm4 c0 HFL
   by_cases h4 : E4 = 0
   case neg =>
    have hne : (E4 != 0) = true := by simpa using h4
    have hZ : Z = (E4, m4) := by have := HPZ.out; rw [if_pos h4] at this; exact this
    have hs2 : s = s' := by rw [← HZS.out.2, hZ]; exact (if_neg h4).symm
    subst hs2
    have HZ2 := Lib.hid hZ
    clear h4 hZ
    go_wp2_with fail
    go_ret
    exact ⟨by rw [HZ2.out]; rfl, by rw [HZ2.out]; exact (HR4.out.base HX1.out).ins H.out HY.out⟩
   subst h4
   have hZ : Z = m4.store r 2 inc (manL ⟨i, ar2, j⟩) := by have := HPZ.out; rw [if_neg (by simp)] at this; exact this
   have HZ2 := Lib.hid hZ
   clear hZ HPZ
   have hfb : fitsB (6 : Nat) i = true := fits_iff.2 ⟨by decide, by omega, by rw [Int.toNat_natCast]; simp; omega⟩
   have HPUT := Lib.hid (rput_yes 6 i w4 hfb)
   clear hfb
   go_wp2_with fail
   refine HPUT.out.mono ?_
   rintro e w5 ⟨A5, c5, rfl, hown, hx⟩
   have HO5 := Lib.hid hown
   have HX5 : Hid (Ext w4 w5) := Lib.hid hx
   have hsz5 := Ext.size hx
   clear hown hx HPUT
   have e8 : IntKind.u8.wrap (ar2 : Int) = (ar2 : Int) := by rw [IntKind.wrap_u8]; omega
   have e9 : IntKind.u8.wrap (j : Int) = (j : Int) := by rw [IntKind.wrap_u8]; omega
   go_wp2_with (at_builtin; refine wpList_append_own _ rfl _ _ 45 rfl w4.heap.size 5 i0 (.int .u8 0) 1 1 Tryz.underlying45 hi0 hz0 hz1 hz2 rfl (by decide) _ _ _ rfl (own_ext HO5.out ((Ext.refl w5).alloc _)) ⟨w5.heap.size, 0, none⟩ 2 2 [.int .u8 0, .int .u8 (j : Int)] rfl rfl ?c1 ?c2 ?c3 ?c4 ?c5 ?_)
   case c1 =>
    intro j u hj
    match j, hj with
    | 0, hj => simp at hj; subst hj; simp [Addr.add]
    | 1, hj => simp at hj; subst hj; simp [Addr.add]
   case c2 => intro u hu; simp at hu; rcases hu with rfl | rfl <;> rfl
   case c3 => unfold maxLen; omega
   case c4 => omega
   case c5 => simp; omega
   intro v6 w6 hown hg _
   have hx6 : Ext w4 w6 := Below.grown (HX5.out.alloc _) hg (Nat.le_trans hsz5 (by simp)) (fun g hg' => (HO5.out.lt g hg').1)
   have hown : w6.ownsRow w4.heap.size 5 1 v6 8 (vb (manL ⟨i, ar2, j⟩)) := by
    rw [← man_two i ar2 j (by omega) (by omega), HAZ.out]
    exact hown
   obtain ⟨A6, c6, rfl, _, _⟩ := own_form hown
   have HB6 : Hid (By w6 A6 8 c6 (manL ⟨i, ar2, j⟩)) := Lib.hid (Bs.of_own hown (manL_lt _))
   have HF6 : Hid (∀ g o, A6 = some ⟨g, o, none⟩ → 0 < 8 → q4 g = 0) := Lib.hid fun g o e _ => part_none HR4.out.rd (by subst e; exact (hown.lt g rfl).1)
   have HX6 := Lib.hid hx6
   clear hown hg hx6 e8 e9 hsz5
   have hst := rstore_of (HR4.out.rd.ext (HX6.out.drew)) r 2 inc A6 8 c6 (manL ⟨i, ar2, j⟩) (HB6.out.ext (Ext.refl w6).drew) HF6.out HQ4.out.2 (knownY HK.out.1 HQ4.out.1)
   rw [← HZ2.out] at hst
   obtain ⟨E7, m7⟩ := Z
   have HST := Lib.hid hst
   have hcs := (HSH4.out.1.ext (HX6.out.drew)).cells
   have hS0 : w6.drew.cell? ⟨y, 0, none⟩ = some (.pointer (some ⟨d, 0, none⟩)) ∧ w6.drew.cell? ⟨y, 1, none⟩ = some (.int .i64 r) ∧ w6.drew.cell? ⟨y, 2, none⟩ = some (.int .i64 inc) := ⟨hcs.1, hcs.2.1, hcs.2.2.1⟩
   clear hst hcs
   go_wp2_with fail
   go_region_held3 (fun w' => w'.cell? ⟨y, 0, none⟩ = some (.pointer (some ⟨d, 0, none⟩)) ∧ w'.cell? ⟨y, 1, none⟩ = some (.int .i64 r) ∧ w'.cell? ⟨y, 2, none⟩ = some (.int .i64 inc))
    (first | with_reducible exact hS0 | exact hS5)
    (first
     | (go_at_call 84; ((with_reducible refine HST.out.mono ?_); rintro e w8 ⟨rfl, hs8⟩; obtain ⟨q8, HR8, HSUB, HM8⟩ := (HR4.out.ext (HX6.out.drew)).out hs8; have hS5 : w8.cell? ⟨y, 0, none⟩ = some (.pointer (some ⟨d, 0, none⟩)) ∧ w8.cell? ⟨y, 1, none⟩ = some (.int .i64 r) ∧ w8.cell? ⟨y, 2, none⟩ = some (.int .i64 inc) := ⟨mod_cell HM8 (fun e => e HSH4.out.2) hS0.1, mod_cell HM8 (fun e => e HSH4.out.2) hS0.2.1, mod_cell HM8 (fun e => e HSH4.out.2) hS0.2.2⟩; have HK8 := Lib.hid (And.intro HR8 (And.intro HSUB HM8)); clear hs8 HR8 HSUB HM8)))
   have HSH8 : Hid (RShAt w8 y d r inc s ∧ q8 y = 0) := Lib.hid ⟨(HSH4.out.1.ext (HX6.out.drew)).mod HK8.out.2.2 fun e => e HSH4.out.2, part_keep HK8.out.2.1 HSH4.out.2 (HSH4.out.1.ext (HX6.out.drew)).lt⟩
   clear hS0 hS5
   by_cases h7 : E7 = 0
   case neg =>
    have hne : (E7 != 0) = true := by simpa using h7
    have hs2 : s = s' := by rw [← HZS.out.2]; exact (if_neg h7).symm
    subst hs2
    clear h7
    go_wp2_with fail
    go_ret
    exact ⟨rfl, (HK8.out.1.base HX1.out).ins H.out HY.out⟩
   subst h7
   have hs2 : (⟨i, ar2, j⟩ : ShM) = s' := by rw [← HZS.out.2]; exact (if_pos rfl).symm
   subst hs2
   have hrow := HSH8.out.1.row
   have hfr : ∀ k, w8.frozen? ⟨y, k, none⟩ = false := fun k => frozen_of_row w8 y k _ _ hrow
   have f3 := hfr 3
   have c3 := HSH8.out.1.cells.2.2.2.1
   have r1 := row_set 3 hrow (.int .i64 (i : Int)) rfl
   obtain ⟨wA, hwA⟩ : ∃ V, w8.setCell ⟨y, 3, none⟩ (.int .i64 (i : Int)) = V := ⟨_, rfl⟩
   rw [hwA] at r1
   have f4 : wA.frozen? ⟨y, 4, none⟩ = false := frozen_of_row wA y 4 _ _ r1
   have c4 : wA.cell? ⟨y, 4, none⟩ = some (.int .i64 (s.ar : Int)) := cell_of_row wA y 4 _ _ _ r1
   have r2 := row_set 4 r1 (.int .i64 (ar2 : Int)) rfl
   obtain ⟨wB, hwB⟩ : ∃ V, wA.setCell ⟨y, 4, none⟩ (.int .i64 0) = V := ⟨_, rfl⟩
   rw [HAZ.out] at r2
   rw [hwB] at r2
   have f5 : wB.frozen? ⟨y, 5, none⟩ = false := frozen_of_row wB y 5 _ _ r2
   have c5 : wB.cell? ⟨y, 5, none⟩ = some (.int .i64 (s.ct : Int)) := cell_of_row wB y 5 _ _ _ r2
   have r3 := row_set 5 r2 (.int .i64 (j : Int)) rfl
   have hmm : Mod (fun k => k = y) w8 (wB.setCell ⟨y, 5, none⟩ (.int .i64 (j : Int))) := by
    rw [← hwB, ← hwA]
    exact Mod.own_cell (Mod.own_cell (Mod.own_cell (Mod.refl _ _) 3 _) 4 _) 5 _
   have HFIN : Hid (RIns w y d r inc q m7 ⟨i, ar2, j⟩ (wB.setCell ⟨y, 5, none⟩ (.int .i64 (j : Int)))) := Lib.hid (by
    refine ⟨q8, HK8.out.1.rd.mod hmm (fun k hk e => hk (by rw [e]; exact HSH8.out.2)), (HK8.out.1.base HX1.out).sub, ?_, ⟨by rw [HAZ.out]; exact r3⟩, HSH8.out.2⟩
    exact Mod.trans ((HK8.out.1.base HX1.out).mod.mono fun k hk => .inl hk) hmm fun k hk => .inl (.inr hk))
   clear hrow hfr r1 r2 r3 hmm
   go_upto_region 26 with (fail)
   try rw [hwA]
   go_upto_region 27 with (fail)
   try rw [hwB]
   go_wp2_with fail
   go_ret
   exact ⟨rfl, HFIN.out⟩
end
end
section
open Go Go.RowKit
section
variable {w : World} {y d : Nat} {r inc : Int} {s : ShM} {q : Nat → Nat} {m : DM}
set_option maxHeartbeats 3200000 in
theorem rsinstall_up1 (hup : m.up = true) (hz : s.ix ≠ 0) (h : RShAt w y d r inc s) (hd : RD w d q m) (hy : q y = 0) (hs : s = {} ∨ manOk s = true) (hr : 0 ≤ r ∧ r ≤ 6) (hc : 1 ≤ inc ∧ inc ≤ 1099511627776) (hsz : m.size = 156)
 (i : Nat) (hi : s.ix < i ∧ i ≤ 1099511627752) (A : Option Addr) (n c : Nat) (bs : List Nat) (hb : By w A n c bs) (hn : n ≤ 640) (hfew : m.waits.length ≤ 900000) :
 Calls Tryz.prog 27 #[.pointer (some ⟨y, 0, none⟩), .int .i64 (i : Int), .slice A n c] w fun e w' => e = .returned (.int .i64 (m.putY r inc (nextY s i (chunkN bs.length)) (splitL bs)).1) ∧
  RIns w y d r inc q (m.putY r inc (nextY s i (chunkN bs.length)) (splitL bs)).2 (if (m.putY r inc (nextY s i (chunkN bs.length)) (splitL bs)).1 = 0 then nextY s i (chunkN bs.length) else s) w' := by
 obtain ⟨i0, hi0, hz0, hz1, hz2⟩ := info_parts byte_info
 have hok := nextY_ok hs hi (b := bs) (by rw [hb.len]; exact hn)
 have hlt := hb.rd.lt
 have hse : ∀ k c, k < 8 → c ∈ splitL bs → sealE r 5 ((8 * (nextY s i (chunkN bs.length)).ar + k : Nat) : Int) ((nextY s i (chunkN bs.length)).ix : Int) inc (prZL ((nextY s i (chunkN bs.length)).ct : Int) c).length 2 = 0 := fun k c hk hcm => sealY hr hc hok hk (split_each hlt c hcm).1
 have har : s.ar ≤ 1 := by
  rcases hs with rfl | hs
  ·exact Nat.zero_le _
  ·have := manOk_iff.1 hs; omega
 have HSP := Lib.hid (zrsplit_yes A n c bs hb hn)
 have hcn := chunkN_in (n := bs.length) (by rw [hb.len]; exact hn)
 have hex : ∀ l ∈ splitL bs, l.length ≤ 80 := fun l hl => (split_each hlt l hl).1
 have hspl := splitL_len bs
 obtain ⟨ar2, har2⟩ : ∃ ar2, (if s.ix = 0 then 0 else 1 - s.ar) = ar2 := ⟨_, rfl⟩
 have har21 : ar2 ≤ 1 := by rw [← har2]; split <;> omega
 have hnx : nextY s i (chunkN bs.length) = ⟨i, ar2, chunkN bs.length⟩ := by unfold nextY; rw [har2]
 rw [hnx] at hok hse ⊢
 dsimp only at hse
 have hcn1 : 1 ≤ chunkN bs.length ∧ chunkN bs.length ≤ 8 := by omega
 have hdown := put_down (m := m) (r := r) (inc := inc) (s := ⟨i, ar2, chunkN bs.length⟩) (l := splitL bs)
 obtain ⟨c0, c1, c2, c3, c4, c5⟩ := h.cells
 have HDN : Hid (∀ V, Ext w V → Calls Tryz.prog 80 #[.pointer (some ⟨y, 0, none⟩)] V fun e w' => e = .returned (.bool (!m.up)) ∧ V = w') := Lib.hid fun V hV => rsdown_of (h.ext hV) (hd.ext hV)
 have HOK := Lib.hid hok
 have HSE := Lib.hid hse
 have HD := Lib.hid hd
 have H := Lib.hid h
 have HY := Lib.hid hy
 have HK := Lib.hid (And.intro hr (And.intro hc hsz))
 have HFW := Lib.hid hfew
 have HEX := Lib.hid hex
 have HSL := Lib.hid hspl
 have HAR2 := Lib.hid har2
 obtain ⟨Z, hZ⟩ : ∃ Z, m.putY r inc ⟨i, ar2, chunkN bs.length⟩ (splitL bs) = Z := ⟨_, rfl⟩
 obtain ⟨s', hs'⟩ : ∃ s' : ShM, (if Z.1 = 0 then ⟨i, ar2, chunkN bs.length⟩ else s) = s' := ⟨_, rfl⟩
 rw [hZ] at hdown
 rw [hZ, hs']
 have HZS := Lib.hid (And.intro hZ hs')
 have HDW := Lib.hid hdown
 have hix : (s.ix : Int) < (i : Int) := by omega
 have hix2 : (i : Int) ≤ 1099511627752 := by omega
 have hix3 : i ≤ 1099511627752 := hi.2
 generalize chunkN bs.length = cn at *
 clear h hd hy hs hr hc hsz hb hfew hok hlt hse hex hspl har2 hnx c0 c1 c2 c4 c5 hdown hZ hs' hcn hi hn
 go_enter Tryz.func27, Tryz.ntmps27
 go_wp2_with fail
 refine HSP.out.mono ?_
 rintro e w1 ⟨v, L, rfl, hO, hl, hx⟩
 obtain ⟨A1, c1, rfl, hls⟩ := hO.lsts
 have hA1 : Off (fun k => q k ≠ 0) A1 := fun p hp hf => by
  have h1 := (hO.row.lt p.block (by rw [hp]; rfl)).1
  have h2 := HD.out.2 _ hf
  omega
 have hO1 : ∀ a ∈ L, 0 < a.n → Off (fun k => q k ≠ 0) a.A := fun a ha _ p hp hf => by
  have h1 := ((hO.each a ha).1.lt p.block (by unfold Lst.val; rw [hp]; rfl)).1
  have h2 := HD.out.2 _ hf
  omega
 have hll : L.length = cn := by
  have := congrArg List.length hl
  unfold lsOf at this
  rw [List.length_map] at this
  rw [this, HSL.out]
 rw [hll] at hls
 have HLS := Lib.hid (And.intro hls (And.intro hA1 (And.intro hO1 hl)))
 have HX1 := Lib.hid hx
 have hdn := HDN.out w1 hx
 clear hO hls hA1 hO1 hl hx c3
 rw [hll]
 rw [hup] at hdn
 have HDN := Lib.hid hdn
 clear hdn hup HDW
 go_wp2_with fail
 refine HDN.out.mono ?_
 rintro e w2 ⟨rfl, rfl⟩
 have d3 := (H.out.ext HX1.out).cells.2.2.2.1
 have d4 := (H.out.ext HX1.out).cells.2.2.2.2.1
 have har' : (s.ar : Int) ≤ 1 := by omega
 have harn : s.ar ≤ 1 := har
 have har0 : 0 ≤ s.ar := Nat.zero_le _
 have ha2 : ar2 = 1 - s.ar := by rw [← HAR2.out, if_neg hz]
 have hz0' : (0 : Int) < (s.ix : Int) := by omega
 have e1 : (1 : Int) - (s.ar : Int) = (ar2 : Int) := by omega
 clear ha2
 go_upto_region 11 with (fail)
 try simp only [decide_eq_true (show 0 < s.ix by omega)]
 try rw [e1]
 try rw [e1]
 clear e1
 clear d3 d4
 go_wp2_with fail
 go_loopw [10] (fun v wr => ∃ (j : Nat) (q1 : Nat → Nat), j ≤ cn ∧ v = .int .i64 (j : Int) ∧ Hid ((wrsY r inc ⟨i, ar2, cn⟩ (0, m) 0 ((splitL bs).take j)).1 = 0) ∧ Hid (RQ w1 wr d q q1 (wrsY r inc ⟨i, ar2, cn⟩ (0, m) 0 ((splitL bs).take j)).2)) (fun v _ => cn - (intOf v).toNat)
 case atStart => exact ⟨0, q, by omega, rfl, Lib.hid rfl, Lib.hid (RQ.start (HD.out.ext HX1.out))⟩
 case round =>
  obtain ⟨j, q1, hj, rfl, HX0, HR⟩ := hrel
  have HSH : Hid (RShAt wr y d r inc s ∧ q1 y = 0) := Lib.hid ⟨(H.out.ext HX1.out).mod HR.out.mod fun e => e HY.out, part_keep HR.out.sub HY.out (H.out.ext HX1.out).lt⟩
  by_cases hlt : j < cn
  ·obtain ⟨gl, ol, a, eA, ha, hby, hcell⟩ := Lsts.modY HLS.out.1 HR.out.mod HLS.out.2.1 HLS.out.2.2.1 hlt
   have hget : (splitL bs)[j]? = some a.l := by rw [← HLS.out.2.2.2]; exact lsOf_atY ha
   have hmem : a.l ∈ splitL bs := List.mem_of_getElem? hget
   have hx1 : wrsY r inc ⟨i, ar2, cn⟩ (0, m) 0 ((splitL bs).take (j + 1)) = wrsE (wrsY r inc ⟨i, ar2, cn⟩ (0, m) 0 ((splitL bs).take j)) (firstS 5 ((8 * ar2 + j : Nat) : Int)) (frmY r inc ⟨i, ar2, cn⟩ j a.l) 2 := by
    rw [List.take_add_one, hget, Option.toList_some, wrsY_snoc, List.length_take, HSL.out, Nat.min_eq_left (by omega), Nat.zero_add]
   have hwt := wrsY_waits (r := r) (inc := inc) (s := ⟨i, ar2, cn⟩) ((splitL bs).take j) (0, m) 0
   rw [List.length_take] at hwt
   have hstop : (wrsY r inc ⟨i, ar2, cn⟩ (0, m) 0 ((splitL bs).take (j + 1))).1 ≠ 0 → Z = wrsY r inc ⟨i, ar2, cn⟩ (0, m) 0 ((splitL bs).take (j + 1)) := fun he => by
    have hw : m.wrY r inc ⟨i, ar2, cn⟩ 0 (splitL bs) = wrsY r inc ⟨i, ar2, cn⟩ (0, m) 0 ((splitL bs).take (j + 1)) := by
     unfold DM.wrY
     rw [wrsY_stop he]
     exact if_neg he
    rw [← HZS.out.1]
    unfold DM.putY
    rw [hw, if_pos he]
   have hse := HSE.out j a.l (by omega) hmem
   have hlen := HEX.out _ hmem
   generalize wrsY r inc ⟨i, ar2, cn⟩ (0, m) 0 ((splitL bs).take j) = X at *
   obtain ⟨X0, mj⟩ := X
   obtain rfl : X0 = 0 := HX0.out
   have hpt := rsput_of HSH.out.1 HR.out.rd HSH.out.2 i ar2 cn j har21 (by omega) a.A a.n a.c a.l hby (by have := hby.len; omega) hse (by have := HFW.out; dsimp only at hwt ⊢; omega)
   generalize wrsE (0, mj) (firstS 5 ((8 * ar2 + j : Nat) : Int)) (frmY r inc ⟨i, ar2, cn⟩ j a.l) 2 = Y at *
   obtain ⟨E2, m2⟩ := Y
   rw [hx1] at hstop
   have HPT := Lib.hid hpt
   have HST := Lib.hid hstop
   have HX2 := Lib.hid hx1
   subst eA
   clear hpt hstop hx1 hwt hse hlen hget hmem hby ha HX0
   go_wp2_with fail
   refine HPT.out.mono ?_
   rintro e w3 ⟨rfl, hs⟩
   obtain ⟨q2, hr3, _⟩ := HR.out.out hs
   have HR3 := Lib.hid hr3
   clear hs hr3
   by_cases h0 : E2 = 0
   ·subst h0
    go_wp2_with fail
    go_roundw
    case rel => exact ⟨j + 1, q2, by omega, by go_num, Lib.hid (by rw [HX2.out]), by rw [HX2.out]; exact HR3⟩
    case measure => simp [intOf]; omega
   ·have hne : (E2 != 0) = true := by simpa using h0
    have hZ := HST.out h0
    have hs2 : s = s' := by rw [← HZS.out.2, hZ]; exact (if_neg h0).symm
    subst hs2
    have HZ2 := Lib.hid hZ
    clear h0 hZ
    go_wp2_with fail
    go_ret
    exact ⟨by rw [HZ2.out]; rfl, by rw [HZ2.out]; exact (HR3.out.base HX1.out).ins H.out HY.out⟩
  ·obtain rfl : j = cn := by omega
   have htk : (splitL bs).take j = splitL bs := List.take_of_length_le (by rw [HSL.out]; exact Nat.le_refl _)
   rw [htk] at HX0 HR
   have hwt := wrsY_waits (r := r) (inc := inc) (s := ⟨i, ar2, j⟩) (splitL bs) (0, m) 0
   have hwy : m.wrY r inc ⟨i, ar2, j⟩ 0 (splitL bs) = (wrsY r inc ⟨i, ar2, j⟩ (0, m) 0 (splitL bs)).2.flush := by
    unfold DM.wrY unE
    rw [if_pos HX0.out]
   have hsz := wrY_size m r inc ⟨i, ar2, j⟩ 0 (splitL bs)
   have hww := wrY_waits m r inc ⟨i, ar2, j⟩ 0 (splitL bs)
   have hpz : Z = if (m.wrY r inc ⟨i, ar2, j⟩ 0 (splitL bs)).1 ≠ 0 then m.wrY r inc ⟨i, ar2, j⟩ 0 (splitL bs) else (m.wrY r inc ⟨i, ar2, j⟩ 0 (splitL bs)).2.store r 2 inc (manL ⟨i, ar2, j⟩) := HZS.out.1.symm
   rw [HSL.out] at hwt hww
   rw [hwy] at hsz hww hpz
   generalize wrsY r inc ⟨i, ar2, j⟩ (0, m) 0 (splitL bs) = X at *
   obtain ⟨X0, mX⟩ := X
   have hfl := rflush_out HR.out.rd (by have := HFW.out; dsimp only at hwt ⊢; omega)
   dsimp only at hfl hsz hww hpz
   generalize mX.flush = Y at *
   obtain ⟨E4, m4⟩ := Y
   have HFL := Lib.hid hfl
   have HPZ := Lib.hid hpz
   have HQ4 : Hid (m4.size = 156 ∧ m4.waits.length + 2 ≤ 1000000) := Lib.hid ⟨by have := HK.out.2.2; dsimp only at hsz; omega, by have := HFW.out; dsimp only at hww; omega⟩
   have c0 := HSH.out.1.cells.1
   clear htk hwt hwy hsz hww hpz hfl HX0
   go_wp2_with fail
   refine HFL.out.mono ?_
   rintro e w4 ⟨rfl, hs⟩
   obtain ⟨q4, hr4, hsub4, hm4⟩ := HR.out.out hs
   have HR4 := Lib.hid hr4
   have HSH4 : Hid (RShAt w4 y d r inc s ∧ q4 y = 0) := Lib.hid ⟨HSH.out.1.mod hm4 fun e => e HSH.out.2, part_keep hsub4 HSH.out.2 HSH.out.1.lt⟩
   clear hs hr4 hsub4 hm4 c0 HFL
   by_cases h4 : E4 = 0
   case neg =>
    have hne : (E4 != 0) = true := by simpa using h4
    have hZ : Z = (E4, m4) := by have := HPZ.out; rw [if_pos h4] at this; exact this
    have hs2 : s = s' := by rw [← HZS.out.2, hZ]; exact (if_neg h4).symm
    subst hs2
    have HZ2 := Lib.hid hZ
    clear h4 hZ
    go_wp2_with fail
    go_ret
    exact ⟨by rw [HZ2.out]; rfl, by rw [HZ2.out]; exact (HR4.out.base HX1.out).ins H.out HY.out⟩
   subst h4
   have hZ : Z = m4.store r 2 inc (manL ⟨i, ar2, j⟩) := by have := HPZ.out; rw [if_neg (by simp)] at this; exact this
   have HZ2 := Lib.hid hZ
   clear hZ HPZ
   have hfb : fitsB (6 : Nat) i = true := fits_iff.2 ⟨by decide, by omega, by rw [Int.toNat_natCast]; simp; omega⟩
   have HPUT := Lib.hid (rput_yes 6 i w4 hfb)
   clear hfb
   go_wp2_with fail
   refine HPUT.out.mono ?_
   rintro e w5 ⟨A5, c5, rfl, hown, hx⟩
   have HO5 := Lib.hid hown
   have HX5 : Hid (Ext w4 w5) := Lib.hid hx
   have hsz5 := Ext.size hx
   clear hown hx HPUT
   have e8 : IntKind.u8.wrap (ar2 : Int) = (ar2 : Int) := by rw [IntKind.wrap_u8]; omega
   have e9 : IntKind.u8.wrap (j : Int) = (j : Int) := by rw [IntKind.wrap_u8]; omega
   go_wp2_with (at_builtin; refine wpList_append_own _ rfl _ _ 45 rfl w4.heap.size 5 i0 (.int .u8 0) 1 1 Tryz.underlying45 hi0 hz0 hz1 hz2 rfl (by decide) _ _ _ rfl (own_ext HO5.out ((Ext.refl w5).alloc _)) ⟨w5.heap.size, 0, none⟩ 2 2 [.int .u8 (ar2 : Int), .int .u8 (j : Int)] rfl rfl ?c1 ?c2 ?c3 ?c4 ?c5 ?_)
   case c1 =>
    intro j u hj
    match j, hj with
    | 0, hj => simp at hj; subst hj; simp [Addr.add]
    | 1, hj => simp at hj; subst hj; simp [Addr.add]
   case c2 => intro u hu; simp at hu; rcases hu with rfl | rfl <;> rfl
   case c3 => unfold maxLen; omega
   case c4 => omega
   case c5 => simp; omega
   intro v6 w6 hown hg _
   have hx6 : Ext w4 w6 := Below.grown (HX5.out.alloc _) hg (Nat.le_trans hsz5 (by simp)) (fun g hg' => (HO5.out.lt g hg').1)
   have hown : w6.ownsRow w4.heap.size 5 1 v6 8 (vb (manL ⟨i, ar2, j⟩)) := by
    rw [← man_two i ar2 j (by omega) (by omega)]
    exact hown
   obtain ⟨A6, c6, rfl, _, _⟩ := own_form hown
   have HB6 : Hid (By w6 A6 8 c6 (manL ⟨i, ar2, j⟩)) := Lib.hid (Bs.of_own hown (manL_lt _))
   have HF6 : Hid (∀ g o, A6 = some ⟨g, o, none⟩ → 0 < 8 → q4 g = 0) := Lib.hid fun g o e _ => part_none HR4.out.rd (by subst e; exact (hown.lt g rfl).1)
   have HX6 := Lib.hid hx6
   clear hown hg hx6 e8 e9 hsz5
   have hst := rstore_of (HR4.out.rd.ext (HX6.out.drew)) r 2 inc A6 8 c6 (manL ⟨i, ar2, j⟩) (HB6.out.ext (Ext.refl w6).drew) HF6.out HQ4.out.2 (knownY HK.out.1 HQ4.out.1)
   rw [← HZ2.out] at hst
   obtain ⟨E7, m7⟩ := Z
   have HST := Lib.hid hst
   have hcs := (HSH4.out.1.ext (HX6.out.drew)).cells
   have hS0 : w6.drew.cell? ⟨y, 0, none⟩ = some (.pointer (some ⟨d, 0, none⟩)) ∧ w6.drew.cell? ⟨y, 1, none⟩ = some (.int .i64 r) ∧ w6.drew.cell? ⟨y, 2, none⟩ = some (.int .i64 inc) := ⟨hcs.1, hcs.2.1, hcs.2.2.1⟩
   clear hst hcs
   go_wp2_with fail
   go_region_held3 (fun w' => w'.cell? ⟨y, 0, none⟩ = some (.pointer (some ⟨d, 0, none⟩)) ∧ w'.cell? ⟨y, 1, none⟩ = some (.int .i64 r) ∧ w'.cell? ⟨y, 2, none⟩ = some (.int .i64 inc))
    (first | with_reducible exact hS0 | exact hS5)
    (first
     | (go_at_call 84; ((with_reducible refine HST.out.mono ?_); rintro e w8 ⟨rfl, hs8⟩; obtain ⟨q8, HR8, HSUB, HM8⟩ := (HR4.out.ext (HX6.out.drew)).out hs8; have hS5 : w8.cell? ⟨y, 0, none⟩ = some (.pointer (some ⟨d, 0, none⟩)) ∧ w8.cell? ⟨y, 1, none⟩ = some (.int .i64 r) ∧ w8.cell? ⟨y, 2, none⟩ = some (.int .i64 inc) := ⟨mod_cell HM8 (fun e => e HSH4.out.2) hS0.1, mod_cell HM8 (fun e => e HSH4.out.2) hS0.2.1, mod_cell HM8 (fun e => e HSH4.out.2) hS0.2.2⟩; have HK8 := Lib.hid (And.intro HR8 (And.intro HSUB HM8)); clear hs8 HR8 HSUB HM8)))
   have HSH8 : Hid (RShAt w8 y d r inc s ∧ q8 y = 0) := Lib.hid ⟨(HSH4.out.1.ext (HX6.out.drew)).mod HK8.out.2.2 fun e => e HSH4.out.2, part_keep HK8.out.2.1 HSH4.out.2 (HSH4.out.1.ext (HX6.out.drew)).lt⟩
   clear hS0 hS5
   by_cases h7 : E7 = 0
   case neg =>
    have hne : (E7 != 0) = true := by simpa using h7
    have hs2 : s = s' := by rw [← HZS.out.2]; exact (if_neg h7).symm
    subst hs2
    clear h7
    go_wp2_with fail
    go_ret
    exact ⟨rfl, (HK8.out.1.base HX1.out).ins H.out HY.out⟩
   subst h7
   have hs2 : (⟨i, ar2, j⟩ : ShM) = s' := by rw [← HZS.out.2]; exact (if_pos rfl).symm
   subst hs2
   have hrow := HSH8.out.1.row
   have hfr : ∀ k, w8.frozen? ⟨y, k, none⟩ = false := fun k => frozen_of_row w8 y k _ _ hrow
   have f3 := hfr 3
   have c3 := HSH8.out.1.cells.2.2.2.1
   have r1 := row_set 3 hrow (.int .i64 (i : Int)) rfl
   obtain ⟨wA, hwA⟩ : ∃ V, w8.setCell ⟨y, 3, none⟩ (.int .i64 (i : Int)) = V := ⟨_, rfl⟩
   rw [hwA] at r1
   have f4 : wA.frozen? ⟨y, 4, none⟩ = false := frozen_of_row wA y 4 _ _ r1
   have c4 : wA.cell? ⟨y, 4, none⟩ = some (.int .i64 (s.ar : Int)) := cell_of_row wA y 4 _ _ _ r1
   have r2 := row_set 4 r1 (.int .i64 (ar2 : Int)) rfl
   obtain ⟨wB, hwB⟩ : ∃ V, wA.setCell ⟨y, 4, none⟩ (.int .i64 (ar2 : Int)) = V := ⟨_, rfl⟩
   rw [hwB] at r2
   have f5 : wB.frozen? ⟨y, 5, none⟩ = false := frozen_of_row wB y 5 _ _ r2
   have c5 : wB.cell? ⟨y, 5, none⟩ = some (.int .i64 (s.ct : Int)) := cell_of_row wB y 5 _ _ _ r2
   have r3 := row_set 5 r2 (.int .i64 (j : Int)) rfl
   have hmm : Mod (fun k => k = y) w8 (wB.setCell ⟨y, 5, none⟩ (.int .i64 (j : Int))) := by
    rw [← hwB, ← hwA]
    exact Mod.own_cell (Mod.own_cell (Mod.own_cell (Mod.refl _ _) 3 _) 4 _) 5 _
   have HFIN : Hid (RIns w y d r inc q m7 ⟨i, ar2, j⟩ (wB.setCell ⟨y, 5, none⟩ (.int .i64 (j : Int)))) := Lib.hid (by
    refine ⟨q8, HK8.out.1.rd.mod hmm (fun k hk e => hk (by rw [e]; exact HSH8.out.2)), (HK8.out.1.base HX1.out).sub, ?_, ⟨r3⟩, HSH8.out.2⟩
    exact Mod.trans ((HK8.out.1.base HX1.out).mod.mono fun k hk => .inl hk) hmm fun k hk => .inl (.inr hk))
   clear hrow hfr r1 r2 r3 hmm
   go_upto_region 26 with (fail)
   try rw [hwA]
   go_upto_region 27 with (fail)
   try rw [hwB]
   go_wp2_with fail
   go_ret
   exact ⟨rfl, HFIN.out⟩
end
end
section
open Go Go.RowKit
theorem loadB_lenY {m : DM} (h : m.Ok) (r g : Int) : (m.loadB r g).length ≤ 43 := by
 unfold DM.loadB
 split
 ·unfold cellB
  split
  ·rename_i ha
   exact (mine_copy (read_sect h _) (atC_zero ha)).2.2.2.2
  ·split
   ·rename_i ha
    exact (mine_copy (read_sect h _) (atC_one ha)).2.2.2.2
   ·simp
 ·simp
def OpnY (w : World) (d g : Nat) (r inc : Int) (F : Nat → Prop) (m' : DM) (s' : ShM) (w' : World) : Prop :=
 w.heap.size ≤ g ∧ ∃ F', PDisk w' d F' m' ∧ (∀ k, k < w.heap.size → F' k → F k) ∧ ¬ F' g ∧ Mod F w w' ∧ ShAt w' g d r inc s'
set_option maxHeartbeats 1600000 in
theorem yopen_yes {w : World} {d : Nat} {F : Nat → Prop} {m : DM} (h : PDisk w d F m) (hL : LaidY w) (r c : Int) (h0 : m.size ≠ 0) (hc : inI 1 c 1099511627776 = true) (hk : knownC m.size r 2 = 0) (hfew : m.waits.length + 1 ≤ 1000000)
 (hE : ldE3 (m.loadV r 2) (m.loadB r 2) (m.loadE r 2) = 0) (hh : (m.heal r 2).1 = 0) :
 Calls Tryz.prog 23 #[.pointer (some ⟨d, 0, none⟩), .int .i64 r, .int .i64 c] w fun e w' => ∃ g, e = .returned (.tuple #[.pointer (some ⟨g, 0, none⟩), .int .i64 0]) ∧ OpnY w d g r c F (m.heal r 2).2 (ldS3 (m.loadV r 2) (m.loadB r 2) (m.loadE r 2)) w' := by
 have HS := Lib.hid (size_pd h)
 have HC := Lib.hid hc
 have hld := yload_of (LoadsY.of h hL r hk (by omega)) hL (loadB_lenY h.ok r 2)
 rw [hE] at hld
 have hne : ((m.size : Int) == 0) = false := by simpa using h0
 obtain ⟨S, hS⟩ : ∃ S, ldS3 (m.loadV r 2) (m.loadB r 2) (m.loadE r 2) = S := ⟨_, rfl⟩
 rw [hS] at hld ⊢
 obtain ⟨x, y, z⟩ := S
 dsimp only at hld
 have hhl : ∀ V, Ext w V → Calls Tryz.prog 69 #[.pointer (some ⟨d, 0, none⟩), .int .i64 r, .int .i64 2] V fun e w' => e = .returned (.int .i64 0) ∧ Step d F V (m.heal r 2).2 w' := fun V hV => by
  have := Heal_of (h.ext hV) (hL.f.ext hV) r 2 hfew hk
  rw [hh] at this
  exact this
 have HLD := Lib.hid hld
 have HHL := Lib.hid hhl
 have HD := Lib.hid h
 clear h hL h0 hc hk hfew hE hh hld hhl hS
 generalize (m.heal r 2).2 = m2 at *
 go_enter Tryz.func23, Tryz.ntmps23
 go_wp2_with fail
 refine HS.out.mono ?_
 rintro e w1 ⟨rfl, rfl⟩
 go_wp2_with fail
 refine (ywithin_of 1 c 1099511627776 _).mono ?_
 rw [HC.out]
 rintro e w1 ⟨rfl, rfl⟩
 go_wp2_with fail
 refine HLD.out.mono ?_
 rintro e w1 ⟨rfl, hx⟩
 have HX := Lib.hid hx
 clear hx
 go_wp2_with fail
 have hE3 := (Ext.refl w1).alloc (.cells #[.int .i64 (x : Int), .int .i64 (y : Int), .int .i64 (z : Int)] 137)
 have hz3 := heap_alloc_new w1 (.cells #[.int .i64 (x : Int), .int .i64 (y : Int), .int .i64 (z : Int)] 137)
 generalize w1.alloc (.cells #[.int .i64 (x : Int), .int .i64 (y : Int), .int .i64 (z : Int)] 137) = w2 at *
 obtain ⟨tb, htb⟩ : ∃ tb, w1.heap.size = tb := ⟨_, rfl⟩
 have htF : ¬ F tb := fun hf => by
  have h1 := HD.out.lt _ hf
  have h2 := HX.out.size
  omega
 rw [htb] at hz3 ⊢
 have HX2 := Lib.hid (HX.out.trans hE3)
 have HZ := Lib.hid (And.intro hz3 (And.intro (Array.getElem?_eq_some_iff.1 hz3).1 htF))
 clear hE3 hz3 htb htF
 refine (HHL.out w2 HX2.out).mono ?_
 rintro e w3 ⟨rfl, hst⟩
 have hrow := (hst.2.block tb HZ.out.2.1 HZ.out.2.2).trans HZ.out.1
 have HW := Lib.hid (((WY.start (HD.out.ext HX2.out)).step hst.1 hst.2).base HX2.out)
 have c0 := cell_of_row w3 tb 0 _ _ _ hrow
 have c1 := cell_of_row w3 tb 1 _ _ _ hrow
 have c2 := cell_of_row w3 tb 2 _ _ _ hrow
 clear hst hrow
 go_wp2_with fail
 refine bodyPost_ret (v := .tuple #[.pointer (some ⟨w3.heap.size, 0, none⟩), .int .i64 0]) (by simp [results, Tryz.results23, go_sem]) rfl ?_
 have hx := (Ext.refl w3).alloc (.cells #[.pointer (some ⟨w3.heap.size, 0, none⟩), .pointer (some ⟨d, 0, none⟩), .int .i64 r, .int .i64 c, .int .i64 (x : Int), .int .i64 (y : Int), .int .i64 (z : Int)] 142)
 have hw4 := HW.out.ext hx
 exact ⟨w3.heap.size, rfl, HW.out.mod.size, _, hw4.disk, hw4.sub, (fun hf => by have := HW.out.disk.lt _ hf; omega), hw4.mod, ⟨heap_alloc_new w3 _⟩⟩
end
section
open Go Go.RowKit
set_option maxHeartbeats 1600000 in
theorem yopen_heal {w : World} {d : Nat} {F : Nat → Prop} {m : DM} (h : PDisk w d F m) (hL : LaidY w) (r c : Int) (h0 : m.size ≠ 0) (hc : inI 1 c 1099511627776 = true) (hk : knownC m.size r 2 = 0) (hfew : m.waits.length + 1 ≤ 1000000)
 (hE : ldE3 (m.loadV r 2) (m.loadB r 2) (m.loadE r 2) = 0) (hh : (m.heal r 2).1 ≠ 0) :
 Calls Tryz.prog 23 #[.pointer (some ⟨d, 0, none⟩), .int .i64 r, .int .i64 c] w fun e w' => e = .returned (.tuple #[.pointer none, .int .i64 (m.heal r 2).1]) ∧ ∃ F', WY w d F F' w' (m.heal r 2).2 := by
 have HS := Lib.hid (size_pd h)
 have HC := Lib.hid hc
 have hld := yload_of (LoadsY.of h hL r hk (by omega)) hL (loadB_lenY h.ok r 2)
 rw [hE] at hld
 have hne : ((m.size : Int) == 0) = false := by simpa using h0
 obtain ⟨S, hS⟩ : ∃ S, ldS3 (m.loadV r 2) (m.loadB r 2) (m.loadE r 2) = S := ⟨_, rfl⟩
 rw [hS] at hld
 obtain ⟨x, y, z⟩ := S
 dsimp only at hld
 have hhl : ∀ V, Ext w V → Calls Tryz.prog 69 #[.pointer (some ⟨d, 0, none⟩), .int .i64 r, .int .i64 2] V fun e w' => e = .returned (.int .i64 (m.heal r 2).1) ∧ Step d F V (m.heal r 2).2 w' := fun V hV => by
  exact Heal_of (h.ext hV) (hL.f.ext hV) r 2 hfew hk
 have HLD := Lib.hid hld
 have HHL := Lib.hid hhl
 have HD := Lib.hid h
 clear h hL h0 hc hk hfew hE hld hhl hS
 generalize (m.heal r 2).2 = m2 at *
 generalize (m.heal r 2).1 = E5 at *
 have hne5 : (E5 != 0) = true := by simpa using hh
 clear hh
 go_enter Tryz.func23, Tryz.ntmps23
 go_wp2_with fail
 refine HS.out.mono ?_
 rintro e w1 ⟨rfl, rfl⟩
 go_wp2_with fail
 refine (ywithin_of 1 c 1099511627776 _).mono ?_
 rw [HC.out]
 rintro e w1 ⟨rfl, rfl⟩
 go_wp2_with fail
 refine HLD.out.mono ?_
 rintro e w1 ⟨rfl, hx⟩
 have HX := Lib.hid hx
 clear hx
 go_wp2_with fail
 have hE3 := (Ext.refl w1).alloc (.cells #[.int .i64 (x : Int), .int .i64 (y : Int), .int .i64 (z : Int)] 137)
 have hz3 := heap_alloc_new w1 (.cells #[.int .i64 (x : Int), .int .i64 (y : Int), .int .i64 (z : Int)] 137)
 generalize w1.alloc (.cells #[.int .i64 (x : Int), .int .i64 (y : Int), .int .i64 (z : Int)] 137) = w2 at *
 obtain ⟨tb, htb⟩ : ∃ tb, w1.heap.size = tb := ⟨_, rfl⟩
 have htF : ¬ F tb := fun hf => by
  have h1 := HD.out.lt _ hf
  have h2 := HX.out.size
  omega
 rw [htb] at hz3 ⊢
 have HX2 := Lib.hid (HX.out.trans hE3)
 have HZ := Lib.hid (And.intro hz3 (And.intro (Array.getElem?_eq_some_iff.1 hz3).1 htF))
 clear hE3 hz3 htb htF
 refine (HHL.out w2 HX2.out).mono ?_
 rintro e w3 ⟨rfl, hst⟩
 have hrow := (hst.2.block tb HZ.out.2.1 HZ.out.2.2).trans HZ.out.1
 have HW := Lib.hid (((WY.start (HD.out.ext HX2.out)).step hst.1 hst.2).base HX2.out)
 have c0 := cell_of_row w3 tb 0 _ _ _ hrow
 have c1 := cell_of_row w3 tb 1 _ _ _ hrow
 have c2 := cell_of_row w3 tb 2 _ _ _ hrow
 clear hst hrow
 go_wp2_with fail
 refine bodyPost_ret (v := .tuple #[.pointer none, .int .i64 E5]) (by simp [results, Tryz.results23, go_sem]) rfl ?_
 exact ⟨rfl, _, HW.out⟩
end
section
open Go Go.RowKit
section
variable {w0 w w' : World} {d g : Nat} {r inc : Int} {F : Nat → Prop} {m m' : DM} {s s' : ShM}
end
end
section
open Go Go.RowKit
theorem do5_step {w0 w : World} {d : Nat} {F : Nat → Prop} {m m2 : DM} (h : DK w0 w d F m) (a : Act5) (ha : a.Ok w0 w0.heap.size) (hn : a.bn ≤ 200) (hfew : m.waits.length ≤ 1000) {E : Int} (hact : m.act a.kind a.sec a.num a.bl a.kl = (E, m2)) :
 Calls Tryz.prog 55 #[.pointer (some ⟨d, 0, none⟩), .agg #[.int .u8 (a.kind : Int), .int .i64 a.sec, .int .i64 a.num, .slice a.bA a.bn a.bc, .slice a.kA a.kn a.kc]] w fun e w' => e = .returned (.int .i64 E) ∧ Step d F w m2 w' := by
 have hd := do_of h.disk a ((ha.below h.bel).more h.bel.size) (h.vs ha.keep) (by omega) (by omega)
 unfold actV at hd
 rw [hact] at hd
 exact hd.mono fun e w' ⟨h1, h2, h3⟩ => ⟨h1, h2, h3⟩
set_option maxHeartbeats 1600000 in
theorem do6_step_no {w0 w : World} {d : Nat} {F : Nat → Prop} {m : DM} (h : DK w0 w d F m) (x : Act6) (hx : x.Ok w0 w0.heap.size) (hs : x.sl = false) (hn : x.act.bn ≤ 200) (hfew : m.waits.length ≤ 1000) :
 Calls Tryz.prog 15 #[.pointer (some ⟨d, 0, none⟩), .agg #[.bool x.sl, .int .i64 x.ta, .int .i64 x.tb, .int .i64 x.tc, .int .i64 x.td, .int .i64 x.te, .slice x.bA x.bn x.bc, .int .u8 (x.act.kind : Int), .int .i64 x.act.sec, .int .i64 x.act.num, .slice x.act.bA x.act.bn x.act.bc, .slice x.act.kA x.act.kn x.act.kc]] w fun e w' => (∃ v, e = .returned v) ∧ Step d F w (m.act6 x) w' := by
 have hE := (Ext.refl w).alloc (box6 x)
 have hB := heap_alloc_new w (box6 x)
 obtain ⟨E, mz, hq⟩ : ∃ E mz, m.act x.act.kind x.act.sec x.act.num x.act.bl x.act.kl = (E, mz) := ⟨(m.act x.act.kind x.act.sec x.act.num x.act.bl x.act.kl).1, (m.act x.act.kind x.act.sec x.act.num x.act.bl x.act.kl).2, rfl⟩
 have hd := do5_step (h.ext hE) x.act hx.act hn hfew hq
 have HACT : Hid (m.act6 x = mz) := Lib.hid (by unfold DM.act6; rw [if_neg (by rw [hs]; simp), hq])
 obtain ⟨c0, _, _, _, _, _, _, c7, c8, c9, c10, c11⟩ := box6_cells hB
 rw [hs] at c0 ⊢
 have hBX : box6 x = .cells #[.bool false, .int .i64 x.ta, .int .i64 x.tb, .int .i64 x.tc, .int .i64 x.td, .int .i64 x.te, .slice x.bA x.bn x.bc, .int .u8 (x.act.kind : Int), .int .i64 x.act.sec, .int .i64 x.act.num, .slice x.act.bA x.act.bn x.act.bc, .slice x.act.kA x.act.kn x.act.kc] 50 := by unfold box6; rw [hs]
 rw [hBX] at c0 c7 c8 c9 c10 c11 hd hE
 have HD := Lib.hid hd
 have HE := Lib.hid hE
 clear hq
 clear h hx hd hE hB hBX
 go_enter Tryz.func15, Tryz.ntmps15
 go_wp2_with fail
 refine HD.out.mono ?_
 rintro e w1 ⟨rfl, hk⟩
 have HK := Lib.hid (Step.pre HE.out hk)
 clear hk
 go_wp2_with fail
 refine bodyPost_ret (results_none rfl _ _ _) rfl ?_
 exact ⟨⟨_, rfl⟩, by rw [HACT.out]; exact HK.out⟩
theorem do6_any {w0 w : World} {d : Nat} {F : Nat → Prop} {m : DM} (h : DK w0 w d F m) (hL : LaidT w0) (x : Act6) (hx : x.Ok w0 w0.heap.size) (hn : x.act.bn ≤ 200) (hfew : m.waits.length ≤ 1000) :
 Calls Tryz.prog 15 #[.pointer (some ⟨d, 0, none⟩), .agg #[.bool x.sl, .int .i64 x.ta, .int .i64 x.tb, .int .i64 x.tc, .int .i64 x.td, .int .i64 x.te, .slice x.bA x.bn x.bc, .int .u8 (x.act.kind : Int), .int .i64 x.act.sec, .int .i64 x.act.num, .slice x.act.bA x.act.bn x.act.bc, .slice x.act.kA x.act.kn x.act.kc]] w fun e w' => (∃ v, e = .returned v) ∧ Step d F w (m.act6 x) w' := by
 by_cases hs : x.sl = true
 ·exact do6_step h hL x hx hs hfew
 ·exact do6_step_no h x hx (by simpa using hs) hn hfew
end
section
open Go Go.RowKit
section
variable {w w' : World} {F : Nat → Prop} {g d : Nat} {o : Obj} {m : DM}
end
end
end Go.Proofs.YtmpaocpgoihliaaGreatDoor
