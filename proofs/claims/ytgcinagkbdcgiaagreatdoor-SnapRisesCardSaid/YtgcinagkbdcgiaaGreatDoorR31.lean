/-
  The contract of snap's Mend.
-/
import Derived.Test.YtgcinagkbdcgiaaGreatDoorR00
import Derived.Test.YtgcinagkbdcgiaaGreatDoorR03
import Derived.Test.YtgcinagkbdcgiaaGreatDoorR10
import Derived.Test.YtgcinagkbdcgiaaGreatDoorR11
import Derived.Test.YtgcinagkbdcgiaaGreatDoorR12
import Derived.Test.YtgcinagkbdcgiaaGreatDoorR13
import Derived.Test.YtgcinagkbdcgiaaGreatDoorR14
import Derived.Test.YtgcinagkbdcgiaaGreatDoorR15
import Derived.Test.YtgcinagkbdcgiaaGreatDoorR18
import Derived.Test.YtgcinagkbdcgiaaGreatDoorR25
import Derived.Test.YtgcinagkbdcgiaaGreatDoorR26
import Derived.Test.YtgcinagkbdcgiaaGreatDoorR29
import Derived.Test.YtgcinagkbdcgiaaGreatDoorR30
import Derived.ChangeMaps5
import Derived.Deep.DeepCutAuto
namespace Go.Proofs.YtgcinagkbdcgiaaGreatDoor
set_option maxRecDepth 100000
section
open Go Go.RowKit
def DM.mendY (m : DM) (r inc : Int) (s : ShM) (k : Int) (c : List Nat) : Int × DM := if fitsZ k s.ct c.length = true ∧ m.chB r s k.toNat = false then m.wrY r inc s k.toNat [c] else (2, m)
theorem lsts_one {w : World} {A : Option Addr} {n c : Nat} {l : List Nat} (hb : By w A n c l) : Lsts (w.alloc (.cells #[.slice A n c] 45)) (w.alloc (.cells #[.slice A n c] 45)).heap.size (some ⟨w.heap.size, 0, none⟩) 1 1 [⟨A, n, c, l⟩] := by
  have hx := (Ext.refl w).alloc (.cells #[.slice A n c] 45)
  refine ⟨rfl, Nat.le_refl _, by omega, fun a ha => ?_, fun _ => ⟨w.heap.size, 0, rfl, by simp, fun j a ha => ?_⟩, fun e => by cases e⟩
  · obtain rfl : a = ⟨A, n, c, l⟩ := by simpa using ha
    exact hb.ext hx
  · cases j with
    | zero =>
      obtain rfl : ⟨A, n, c, l⟩ = a := by simpa using ha
      exact cell_of_row _ w.heap.size 0 _ _ _ (heap_alloc_new w _)
    | succ j => simp at ha
set_option maxHeartbeats 1600000 in
theorem ymend_of {w : World} {g d : Nat} {r inc : Int} {s : ShM} {F : Nat → Prop} {m : DM} (h : ShAt w g d r inc s) (hd : PDisk w d F m) (hg : ¬ F g) (hLM : ∀ V, Mod F w V → LaidY V) (hs : s = {} ∨ manOk s = true) (hr : 0 ≤ r ∧ r ≤ 6) (hc : 1 ≤ inc ∧ inc ≤ 1099511627776)
    (k : Int) (A : Option Addr) (n c : Nat) (l : List Nat) (hb : By w A n c l) (hoff : Off F A) (hfew : m.waits.length ≤ 900000) :
    Calls Tryz.prog 32 #[.pointer (some ⟨g, 0, none⟩), .int .i64 k, .slice A n c] w fun e w' => e = .returned (.int .i64 (m.mendY r inc s k l).1) ∧ InsY w g d r inc F (m.mendY r inc s k l).2 s w' := by
  have hct8 : s.ct ≤ 8 ∧ s.ar ≤ 1 := by
    rcases hs with rfl | hs
    · exact ⟨Nat.zero_le _, Nat.zero_le _⟩
    · have := manOk_iff.1 hs; omega
  have hL := hLM w (Mod.refl _ w)
  have hlen := hb.len
  obtain ⟨c0, c1, c2, c3, c4, c5, c6⟩ := h.cells
  have HM := Lib.hid (ymade_yes g w c0)
  have hmb := ymay_of s.ix s.ar s.ct hct8.1 k A n c l w hb
  have stay : ∀ w', Ext w w' → InsY w g d r inc F m s w' := fun w' hx => (WY.start hd |>.ext hx).ins h hg
  have HST := Lib.hid stay
  by_cases hf : fitsZ k s.ct n = true
  · have hq := fitsZ_iff.1 hf
    obtain ⟨j, rfl⟩ : ∃ j : Nat, k = (j : Int) := ⟨k.toNat, by omega⟩
    have hjc : j < s.ct := by omega
    have hih : ∀ V, Ext w V → Calls Tryz.prog 106 #[.pointer (some ⟨g, 0, none⟩), .int .i64 (j : Int)] V fun e w' => e = .returned (.bool (!m.chB r s j)) ∧ Ext V w' := fun V hV => yishurt_of (h.ext hV) (hd.ext hV) (hL.ext hV) hct8.1 hct8.2 j hjc (by omega)
    have hmo : manOk s = true := by
      rcases hs with rfl | hs
      · exact absurd hjc (Nat.not_lt_zero _)
      · exact hs
    have hse := sealY (k := j) (c := l) hr hc hmo (by omega) (by omega)
    rw [hf] at hmb
    have HMB := Lib.hid hmb
    cases hcb : m.chB r s j with
    | true =>
      rw [hcb, Bool.not_true] at hih
      have he : m.mendY r inc s (j : Int) l = (2, m) := by unfold DM.mendY; rw [if_neg (by rw [Int.toNat_natCast, hcb]; simp)]
      rw [he]
      have HIH := Lib.hid hih
      clear h hd hg hLM hs hr hc hb hoff hfew hct8 hL hlen hmb stay hf hq hih hmo hse hcb he c0 c1 c2 c3
      go_enter Tryz.func32, Tryz.ntmps32
      go_wp2_with fail
      refine HM.out.mono ?_
      rintro e w1 ⟨rfl, rfl⟩
      go_wp2_with fail
      refine HMB.out.mono ?_
      rintro e w1 ⟨rfl, hx⟩
      have HX1 := Lib.hid hx
      clear hx
      go_wp2_with fail
      refine (HIH.out _ HX1.out).mono ?_
      rintro e w2 ⟨rfl, hx⟩
      have HX2 := Lib.hid (HX1.out.trans hx)
      clear hx
      go_wp2_with fail
      go_ret
      exact ⟨rfl, HST.out _ HX2.out⟩
    | false =>
      rw [hcb, Bool.not_false] at hih
      have he : m.mendY r inc s (j : Int) l = m.wrY r inc s j [l] := by unfold DM.mendY; rw [if_pos ⟨by rw [hlen]; exact hf, by rw [Int.toNat_natCast]; exact hcb⟩, Int.toNat_natCast]
      rw [he]
      obtain ⟨ix, ar, ct⟩ := s
      dsimp only at hse c4 c5 c6 hct8 hjc
      have hwr : ∀ V, Ext w V → Calls Tryz.prog 96 #[.pointer (some ⟨g, 0, none⟩), .agg #[.int .i64 (ix : Int), .int .i64 (ar : Int), .int .i64 (ct : Int)], .int .i64 (j : Int), .slice (some ⟨V.heap.size, 0, none⟩) 1 1] (V.alloc (.cells #[.slice A n c] 45)) fun e w' => e = .returned (.int .i64 (m.wrY r inc ⟨ix, ar, ct⟩ j [l]).1) ∧ InsY w g d r inc F (m.wrY r inc ⟨ix, ar, ct⟩ j [l]).2 ⟨ix, ar, ct⟩ w' := fun V hV => by
        have hx : Ext w (V.alloc (.cells #[.slice A n c] 45)) := hV.alloc _
        have hnl : n ≤ 80 := hq.2.2.2.2.1
        refine (ywrite_of (h.ext hx) (hd.ext hx) hg (fun U hU => hLM U ((Mod.of_ext hx).trans hU fun _ hi => .inl hi)) ix ar ct hct8.2 j (some ⟨V.heap.size, 0, none⟩) 1 1 [⟨A, n, c, l⟩] (lsts_one (hb.ext hV)) (fun p hp hf => ?_) (fun a ha => ?_) (by omega) (fun a ha => ?_) (fun i a ha => ?_) (by omega)).mono ?_
        · cases hp
          have h1 := hd.lt _ hf
          have h2 := hV.size
          dsimp only at h1
          omega
        · obtain rfl : a = ⟨A, n, c, l⟩ := by simpa using ha
          exact hoff
        · obtain rfl : a = ⟨A, n, c, l⟩ := by simpa using ha
          dsimp only
          omega
        · cases i with
          | zero =>
            obtain rfl : ⟨A, n, c, l⟩ = a := by simpa using ha
            exact hse
          | succ i => simp at ha
        · rintro e w' ⟨he, F', hw⟩
          exact ⟨he, (hw.base hx).ins h hg⟩
      have HIH := Lib.hid hih
      have HWR := Lib.hid hwr
      have H := Lib.hid h
      clear h hd hg hLM hs hr hc hb hoff hfew hct8 hL hlen hmb stay hf hq hih hmo hse hcb he c0 c1 c2 c3 hwr hjc
      go_enter Tryz.func32, Tryz.ntmps32
      go_wp2_with fail
      refine HM.out.mono ?_
      rintro e w1 ⟨rfl, rfl⟩
      go_wp2_with fail
      refine HMB.out.mono ?_
      rintro e w1 ⟨rfl, hx⟩
      have HX1 := Lib.hid hx
      clear hx
      go_wp2_with fail
      refine (HIH.out _ HX1.out).mono ?_
      rintro e w2 ⟨rfl, hx⟩
      have HX2 := Lib.hid (HX1.out.trans hx)
      obtain ⟨_, _, _, _, d4, d5, d6⟩ := (H.out.ext HX2.out).cells
      clear hx c4 c5 c6
      go_wp2_with fail
      refine (HWR.out w2 HX2.out).mono ?_
      rintro e w3 ⟨rfl, hi⟩
      have HI := Lib.hid hi
      clear hi
      go_wp2_with fail
      go_ret
      exact ⟨rfl, HI.out⟩
  · have hff : fitsZ k s.ct n = false := by simpa using hf
    have he : m.mendY r inc s k l = (2, m) := by unfold DM.mendY; rw [if_neg (by rw [hlen, hff]; simp)]
    rw [he]
    rw [hff] at hmb
    have HMB := Lib.hid hmb
    clear h hd hg hLM hs hr hc hb hoff hfew hct8 hL hlen hmb stay hf hff he c0 c1 c2 c3
    go_enter Tryz.func32, Tryz.ntmps32
    go_wp2_with fail
    refine HM.out.mono ?_
    rintro e w1 ⟨rfl, rfl⟩
    go_wp2_with fail
    refine HMB.out.mono ?_
    rintro e w1 ⟨rfl, hx⟩
    have HX1 := Lib.hid hx
    clear hx
    go_wp2_with fail
    go_ret
    exact ⟨rfl, HST.out _ HX1.out⟩
end
section
open Go Go.RowKit
section
variable {w0 w : World} {d : Nat} {F : Nat → Prop} {m : DM}
theorem DK.st (h : DK w0 w d F m) {m' : DM} {w' : World} (k : Step d F w m' w') : DK w0 w' d (grow F w w') m' := h.step k.1 k.2
theorem DK.laid (h : DK w0 w d F m) (hL : LaidF w0) : ∀ V, Mod F w V → LaidF V := fun _ hm => hL.ext (Below.mod h.bel hm h.bel.size h.low)
end
end
section
open Go Go.RowKit
structure LdY (w0 w : World) (d g : Nat) (r inc : Int) (F : Nat → Prop) (m : DM) (s : ShM) : Prop where
  dk : DK w0 w d F m
  low : w0.heap.size ≤ g
  off : ¬ F g
  sh : ShAt w g d r inc s
section
variable {w0 w w' : World} {d g : Nat} {r inc : Int} {F : Nat → Prop} {m m' : DM} {s s' : ShM}
theorem LdY.ext (h : LdY w0 w d g r inc F m s) (hx : Ext w w') : LdY w0 w' d g r inc F m s := ⟨h.dk.ext hx, h.low, h.off, h.sh.ext hx⟩
theorem LdY.laid (h : LdY w0 w d g r inc F m s) (hL : LaidY w0) : ∀ V, Mod F w V → LaidY V := fun _ hm => hL.ext (Below.mod h.dk.bel hm h.dk.bel.size h.dk.low)
theorem LdY.laid0 (h : LdY w0 w d g r inc F m s) (hL : LaidY w0) : LaidY w := hL.ext h.dk.bel
theorem LdY.ins (h : LdY w0 w d g r inc F m s) (k : InsY w g d r inc F m' s' w') : ∃ F', LdY w0 w' d g r inc F' m' s' := by
  obtain ⟨F', hd, sub, hng, hm, hs⟩ := k
  refine ⟨F', ⟨hd, fun k hk => ?_, Below.mod h.dk.bel hm h.dk.bel.size fun i hi => hi.elim (h.dk.low i) fun e => by rw [e]; exact h.low⟩, h.low, hng, hs⟩
  by_cases hlt : k < w.heap.size
  · exact h.dk.low k (sub k hlt hk)
  · have := h.dk.bel.size; omega
theorem LdY.of_open (h : DK w0 w d F m) (k : OpnY w d g r inc F m' s' w') : ∃ F', LdY w0 w' d g r inc F' m' s' := by
  obtain ⟨hg, F', hd, sub, hng, hm, hs⟩ := k
  refine ⟨F', ⟨hd, fun k hk => ?_, Below.mod h.bel hm h.bel.size h.low⟩, Nat.le_trans h.bel.size hg, hng, hs⟩
  by_cases hlt : k < w.heap.size
  · exact h.low k (sub k hlt hk)
  · have := h.bel.size; omega
theorem LdY.step (h : LdY w0 w d g r inc F m s) (hp : PDisk w' d (grow F w w') m') (hm : Mod F w w') : ∃ F', LdY w0 w' d g r inc F' m' s :=
  ⟨grow F w w', h.dk.step hp hm, h.low, grow_not h.off h.sh.lt, h.sh.mod hm h.off⟩
theorem ldy_open {v : Nat} {b : List Nat} (h : DK w0 w d F m) (hL : LaidY w0) (hd : CD m (-1)) (hr : 0 ≤ r ∧ r ≤ 6) (hc : 1 ≤ inc ∧ inc ≤ 1099511627776) (hu : SomeU r m 2 v (ManY v s)) (hh : HeldY m r s b) (hz : v = 0 ↔ s.ix = 0) :
    Calls Tryz.prog 27 #[.pointer (some ⟨d, 0, none⟩), .int .i64 r, .int .i64 inc] w fun e w' => ∃ g F' m', e = .returned (.tuple #[.pointer (some ⟨g, 0, none⟩), .int .i64 0]) ∧ LdY w0 w' d g r inc F' m' s ∧ InY m' (-1) r s v b := by
  obtain ⟨h1, h2, m', h3, h4⟩ := hu.openY hd hh hz
  have hw := hd.b.waits
  have hsz := hd.b.size
  refine (yopen_yes h.disk (hL.ext h.bel) r inc (by rw [hsz]; omega) (inI_iff.2 hc) (knownY hr hsz) (by rw [hw]; simp) h1 (by rw [h3])).mono ?_
  rintro e w' ⟨g, he, ho⟩
  rw [h3] at ho
  have ho2 : OpnY w d g r inc F m' s w' := by
    have : ldS3 (m.loadV r 2) (m.loadB r 2) (m.loadE r 2) = s := h2
    rw [this] at ho
    exact ho
  obtain ⟨F', hl⟩ := LdY.of_open h ho2
  exact ⟨g, F', m', he, hl, h4⟩
theorem ldy_install {v : Nat} {b : List Nat} (h : LdY w0 w d g r inc F m s) (hL : LaidY w0) (hi : InY m (-1) r s v b) (hr : 0 ≤ r ∧ r ≤ 6) (hc : 1 ≤ inc ∧ inc ≤ 1099511627776) (hv : v < 1099511627776) (i : Nat) (hix : s.ix < i ∧ i ≤ 1099511627752) (A : Option Addr) (n c : Nat) (bs : List Nat) (hb : By w A n c bs) (hn : n ≤ 640) :
    Calls Tryz.prog 30 #[.pointer (some ⟨g, 0, none⟩), .int .i64 (i : Int), .slice A n c] w fun e w' => e = .returned (.int .i64 0) ∧ ∃ F' m', LdY w0 w' d g r inc F' m' (nextY s i (chunkN bs.length)) ∧ InY m' (-1) r (nextY s i (chunkN bs.length)) (v + 1) bs := by
  have hw := hi.cd.b.waits
  have hsz := hi.cd.b.size
  obtain ⟨m', hm⟩ := hi.install (by omega) hr hc hv hix (c := bs) (by rw [hb.len]; exact hn) hb.rd.lt
  rcases hm with ⟨h1, q, _, hq, h2⟩ | ⟨h0, _⟩
  · obtain rfl := hq rfl
    refine (yinstall_yes h.sh h.dk.disk h.off (h.laid hL) hi.held.kind hr hc hsz i hix A n c bs hb hn (by rw [hw]; simp)).mono ?_
    rintro e w' ⟨he, hins⟩
    rw [h1] at he hins
    dsimp only at hins
    rw [if_pos rfl] at hins
    obtain ⟨F', hl⟩ := h.ins hins
    exact ⟨he, F', m', hl, h2⟩
  · exact absurd rfl h0
end
end
section
open Go Go.RowKit
def lastY (L : List Lst) (j : Nat) : List Nat := if j = 0 then [] else ((lsOf L)[j - 1]?).getD []
theorem lastY_succ {L : List Lst} {j : Nat} {a : Lst} (h : L[j]? = some a) : lastY L (j + 1) = a.l := by
  unfold lastY
  rw [if_neg (by omega), Nat.add_sub_cancel, lsOf_atY h]
  rfl
set_option maxHeartbeats 1600000 in
theorem yinstalled_of {w0 w : World} {d : Nat} {F : Nat → Prop} (h : DK w0 w d F (DM.new 156)) (hL : LaidY w0) (A : Option Addr) (n c : Nat) (L : List Lst) (hls : Lsts w0 w0.heap.size A n c L) (hn : n ≤ 6) (hin : ∀ (i : Nat) (a : Lst), L[i]? = some a → a.n ≤ 640) :
    Calls Tryz.prog 38 #[.pointer (some ⟨d, 0, none⟩), .slice A n c] w fun e w' => ∃ g F' m' s, e = .returned (.pointer (some ⟨g, 0, none⟩)) ∧ LdY w0 w' d g 2 1 F' m' s ∧ InY m' (-1) 2 s n (lastY L n) ∧ s.ix = 8 * n := by
  have hi := InY.new 2
  have hop := ldy_open h hL hi.cd (r := 2) (inc := 1) (by omega) (by omega) (two_someU hi.two) hi.held hi.zero
  have HOP := Lib.hid hop
  have HL := Lib.hid hL
  have HLS := Lib.hid hls
  have HIN := Lib.hid hin
  clear h hL hls hin hop hi
  go_enter Tryz.func38, Tryz.ntmps38
  go_wp2_with fail
  refine HOP.out.mono ?_
  rintro e w1 ⟨g, F1, m1, rfl, hl, hi⟩
  have HD := Lib.hid hl
  have HI := Lib.hid hi
  clear hl hi
  go_wp2_with fail
  go_loopw [7] (fun v wr => ∃ (j : Nat) (F' : Nat → Prop) (m' : DM) (s : ShM), j ≤ n ∧ v = .int .i64 (j : Int) ∧ Hid (LdY w0 wr d g 2 1 F' m' s) ∧ Hid (InY m' (-1) 2 s j (lastY L j)) ∧ Hid (s.ix = 8 * j)) (fun v _ => n - (intOf v).toNat)
  case atStart => exact ⟨0, F1, m1, {}, by omega, rfl, HD, HI, Lib.hid rfl⟩
  case round =>
    obtain ⟨j, F', m', s, hj, rfl, HD, HI, HX⟩ := hrel
    by_cases hlt : j < n
    · obtain ⟨gl, ol, a, eA, hgl, ha, hby, hcell⟩ := (HLS.out.ext HD.out.dk.bel).at_ hlt
      have hins := ldy_install HD.out HL.out HI.out (by omega) (by omega) (by omega) (8 * j + 8) (by have := HX.out; omega) a.A a.n a.c a.l hby (HIN.out j a ha)
      have hst : Calls Tryz.prog 30 #[.pointer (some ⟨g, 0, none⟩), .int .i64 (8 * (j : Int) + 8), .slice a.A a.n a.c] wr fun e w' => e = .returned (.int .i64 0) ∧ ∃ F' m', LdY w0 w' d g 2 1 F' m' (nextY s (8 * j + 8) (chunkN a.l.length)) ∧ InY m' (-1) 2 (nextY s (8 * j + 8) (chunkN a.l.length)) (j + 1) a.l := hins
      have HST := Lib.hid hst
      have HLA := Lib.hid (lastY_succ ha)
      subst eA
      clear hins hst ha hby hgl
      go_wp2_with fail
      refine HST.out.mono ?_
      rintro e w2 ⟨rfl, F2, m2, hl2, hi2⟩
      have HD2 := Lib.hid hl2
      have HI2 := Lib.hid hi2
      clear hl2 hi2 hcell
      go_wp2_with fail
      go_roundw
      case rel => exact ⟨j + 1, F2, m2, _, by omega, by go_num, HD2, by rw [HLA.out]; exact HI2, Lib.hid (by show 8 * j + 8 = 8 * (j + 1); omega)⟩
      case measure => simp [intOf]; omega
    · obtain rfl : j = n := by omega
      go_wp2_with fail
      go_ret
      exact ⟨g, F', m', s, rfl, HD.out, HI.out, HX.out⟩
end
section
open Go Go.RowKit Go.Shelf
attribute [local go_sem] Oper.semAt_some
end
section
open Go Go.RowKit Go.Shelf
attribute [local go_sem] Oper.semAt_some
end
section
open Go Go.RowKit Go.Shelf
attribute [local go_sem] Oper.semAt_some
end
section
open Go Go.RowKit
section
variable {w : World} {d : Nat} {F : Nat → Prop} {m : DM}
end
end
section
open Go Go.RowKit
structure LD (w0 w : World) (d : Nat) (F : Nat → Prop) (g s : Nat) (r inc : Int) (m : DM) : Prop where
  dk : DK w0 w d F m
  log : LogAt w g d r inc s
  off : ¬ F g
  low : w0.heap.size ≤ g
section
variable {w0 w w' : World} {d : Nat} {F : Nat → Prop} {g s : Nat} {r inc : Int} {m m' : DM}
theorem LD.ext (h : LD w0 w d F g s r inc m) (k : Ext w w') : LD w0 w' d F g s r inc m := ⟨h.dk.ext k, h.log.ext k, h.off, h.low⟩
theorem LD.step (h : LD w0 w d F g s r inc m) (k : Step d F w m' w') : ∃ F', LD w0 w' d F' g s r inc m' :=
  ⟨grow F w w', h.dk.step k.1 k.2, h.log.mod k.2 h.off, fun hg => hg.elim h.off fun h1 => by have := h.log.lt; omega, h.low⟩
theorem LD.laid (h : LD w0 w d F g s r inc m) (hL : LaidF w0) : LaidF w := hL.ext h.dk.bel
end
end
section
open Go Go.RowKit
section
variable {w0 w : World} {d : Nat} {F : Nat → Prop} {g s : Nat} {r inc : Int} {m : DM}
end
end
section
open Go Go.RowKit Go.ChangeShapes Go.WideShapes Go.Deep
structure Ls {α : Type} (cells : α → List Value) (N : Nat) (w : World) (B : Nat) (A : Option Addr) (n c : Nat) (l : List α) : Prop where
  len : l.length = n
  cap : n ≤ c
  most : c ≤ 9223372036854775807
  rd : 0 < n → ∃ g o, A = some ⟨g, o, none⟩ ∧ g < B ∧ ∀ j a, l[j]? = some a → ∀ k v, (cells a)[k]? = some v → w.cell? ⟨g, o + (j * N + k), none⟩ = some v
  nil_ : A = none → c = 0
theorem Ls.below {α : Type} {cells : α → List Value} {N : Nat} {w w' : World} {B : Nat} {A : Option Addr} {n c : Nat} {l : List α} (h : Ls cells N w B A n c l) (hb : Below B w w') : Ls cells N w' B A n c l :=
  ⟨h.len, h.cap, h.most, fun hn => by
    obtain ⟨g, o, e, hg, hc⟩ := h.rd hn
    exact ⟨g, o, e, hg, fun j a ha k v hv => (hb.cell (p := ⟨g, o + (j * N + k), none⟩) hg).trans (hc j a ha k v hv)⟩, h.nil_⟩
theorem Ls.at_ {α : Type} {cells : α → List Value} {N : Nat} {w : World} {B : Nat} {A : Option Addr} {n c : Nat} {l : List α} (h : Ls cells N w B A n c l) {j : Nat} (hj : j < n) :
    ∃ g o a, A = some ⟨g, o, none⟩ ∧ g < B ∧ l[j]? = some a ∧ ∀ k v, (cells a)[k]? = some v → w.cell? ⟨g, o + (j * N + k), none⟩ = some v := by
  obtain ⟨g, o, e, hg, hc⟩ := h.rd (by omega)
  have hj' : j < l.length := by rw [h.len]; exact hj
  have ha : l[j]? = some l[j] := List.getElem?_eq_getElem hj'
  exact ⟨g, o, l[j], e, hg, ha, fun k v hv => hc j _ ha k v hv⟩
section
variable {H : Type} {enc : TypeId × Value → H} {P : Program} {w : World} {base : Nat} {spare : Nat → Bool} {held : Bool}
structure Bal where
  x : Int := 0
  y : Int := 0
instance : Inhabited Bal := ⟨{}⟩
def Bal.cells (b : Bal) : List Value := [.int .i64 b.x, .int .i64 b.y]
structure StepU where
  p : Bool := false
  x : Int := 0
  y : Int := 0
  w : Int := 0
  kA : Option Addr := none
  kn : Nat := 0
  kc : Nat := 0
  kl : List Bool := []
instance : Inhabited StepU := ⟨{}⟩
def StepU.cells (s : StepU) : List Value := [.bool s.p, .int .i64 s.x, .int .i64 s.y, .int .i8 s.w, .slice s.kA s.kn s.kc]
structure StepU.Ok (s : StepU) (w : World) (B : Nat) : Prop where
  power : (Lit.int .i8 s.w).wf = true
  keep : Vs w B s.kA s.kn s.kc (s.kl.map .bool)
end
end
section
open Go Go.RowKit Go.ChangeShapes Go.WideShapes Go.Deep
def Ent.cells (e : Ent) : List Value := [.int .u8 (e.k : Nat), .int .i64 e.cl, .int .i64 e.sq, .int .u8 (e.ok : Nat), .string e.key, .string e.old, .string e.val]
section
variable {H : Type} {enc : TypeId × Value → H} {P : Program} {w : World} {base : Nat} {spare : Nat → Bool} {held : Bool}
end
end
section
open Go Go.RowKit Go.ChangeShapes Go.WideShapes Go.Deep
def CopL.cells (c : CopL) : List Value := [.int .u8 (c.st : Nat), .int .i64 c.ix, .int .i64 c.bx, .int .i64 c.yb, .int .u8 (c.e.k : Nat), .int .i64 c.e.cl, .int .i64 c.e.sq, .int .u8 (c.e.ok : Nat), .string c.e.key, .string c.e.old, .string c.e.val]
section
variable {H : Type} {enc : TypeId × Value → H} {P : Program} {w : World} {base : Nat} {spare : Nat → Bool} {held : Bool}
end
end
section
open Go Go.RowKit Go.ChangeShapes Go.WideShapes Go.Deep
def PutA.cells (a : PutA) : List Value := [.int .u8 (a.at_ : Nat), .int .i64 a.x, .int .i64 a.y, .int .u8 (a.e.k : Nat), .int .i64 a.e.cl, .int .i64 a.e.sq, .int .u8 (a.e.ok : Nat), .string a.e.key, .string a.e.old, .string a.e.val]
instance : Inhabited PutA := ⟨{}⟩
structure FltA where
  k : Nat := 0
  s : Nat := 0
  n : Nat := 0
instance : Inhabited FltA := ⟨{}⟩
def FltA.cells (a : FltA) : List Value := [.int .u8 (a.k : Nat), .int .u16 (a.s : Nat), .int .u16 (a.n : Nat)]
section
variable {H : Type} {enc : TypeId × Value → H} {P : Program} {w : World} {base : Nat} {spare : Nat → Bool} {held : Bool}
end
end
section
open Go Go.RowKit
theorem wnew_dk {w0 w : World} (hx : Ext w0 w) : Calls Tryz.prog 10 #[.int .i64 156] w fun e w' => ∃ d F, e = .returned (.tuple #[.pointer (some ⟨d, 0, none⟩), .int .i64 0]) ∧ DK w0 w' d F (DM.new 156) :=
  (new_pdk 156 w (by omega) (by omega)).mono fun e w' ⟨d, h1, h2, h3⟩ => ⟨d, _, h1, h2, fun k hk => Nat.le_trans hx.size hk.1, hx.trans h3⟩
abbrev AwC (w : World) (b c : Nat) : Prop := w.cell? ⟨b, 0, none⟩ = some (.int .i64 1) ∧ w.cell? ⟨b, 1, none⟩ = some (.int .u8 2) ∧ w.cell? ⟨b, 2, none⟩ = some (.int .i64 1) ∧ w.cell? ⟨b, 3, none⟩ = some (.int .i64 0) ∧ w.cell? ⟨b, 4, none⟩ = some (.int .u8 1) ∧ w.cell? ⟨b, 5, none⟩ = some (.int .i64 0) ∧ w.cell? ⟨b, 6, none⟩ = some (.int .i64 0) ∧ w.cell? ⟨b, 7, none⟩ = some (.int .u8 0) ∧ w.cell? ⟨b, 8, none⟩ = some (.string ByteArray.empty) ∧ w.cell? ⟨b, 9, none⟩ = some (.string ByteArray.empty) ∧ w.cell? ⟨b, 10, none⟩ = some (.string ByteArray.empty) ∧ w.cell? ⟨c, 0, none⟩ = some (.int .i64 25) ∧ w.cell? ⟨c, 1, none⟩ = some (.int .u8 1) ∧ w.cell? ⟨c, 2, none⟩ = some (.int .i64 0) ∧ w.cell? ⟨c, 3, none⟩ = some (.int .i64 0) ∧ w.cell? ⟨c, 4, none⟩ = some (.int .u8 0) ∧ w.cell? ⟨c, 5, none⟩ = some (.int .i64 0) ∧ w.cell? ⟨c, 6, none⟩ = some (.int .i64 0) ∧ w.cell? ⟨c, 7, none⟩ = some (.int .u8 0) ∧ w.cell? ⟨c, 8, none⟩ = some (.string ByteArray.empty) ∧ w.cell? ⟨c, 9, none⟩ = some (.string ByteArray.empty) ∧ w.cell? ⟨c, 10, none⟩ = some (.string ByteArray.empty)
theorem AwC.of {w : World} {b c : Nat} (ha : w.heap[b]? = some (.cells #[.int .i64 1, .int .u8 2, .int .i64 1, .int .i64 0, .int .u8 1, .int .i64 0, .int .i64 0, .int .u8 0, .string ByteArray.empty, .string ByteArray.empty, .string ByteArray.empty] 150 (0, 0))) (hc : w.heap[c]? = some (.cells #[.int .i64 25, .int .u8 1, .int .i64 0, .int .i64 0, .int .u8 0, .int .i64 0, .int .i64 0, .int .u8 0, .string ByteArray.empty, .string ByteArray.empty, .string ByteArray.empty] 150 (0, 0))) : AwC w b c := ⟨cell_of_row w b 0 _ _ _ ha, cell_of_row w b 1 _ _ _ ha, cell_of_row w b 2 _ _ _ ha, cell_of_row w b 3 _ _ _ ha, cell_of_row w b 4 _ _ _ ha, cell_of_row w b 5 _ _ _ ha, cell_of_row w b 6 _ _ _ ha, cell_of_row w b 7 _ _ _ ha, cell_of_row w b 8 _ _ _ ha, cell_of_row w b 9 _ _ _ ha, cell_of_row w b 10 _ _ _ ha, cell_of_row w c 0 _ _ _ hc, cell_of_row w c 1 _ _ _ hc, cell_of_row w c 2 _ _ _ hc, cell_of_row w c 3 _ _ _ hc, cell_of_row w c 4 _ _ _ hc, cell_of_row w c 5 _ _ _ hc, cell_of_row w c 6 _ _ _ hc, cell_of_row w c 7 _ _ _ hc, cell_of_row w c 8 _ _ _ hc, cell_of_row w c 9 _ _ _ hc, cell_of_row w c 10 _ _ _ hc⟩
theorem AwC.ext {w w' : World} {b c : Nat} (hx : Ext w w') (h : AwC w b c) : AwC w' b c := by
  obtain ⟨a0, a1, a2, a3, a4, a5, a6, a7, a8, a9, a10, a11, a12, a13, a14, a15, a16, a17, a18, a19, a20, a21⟩ := h
  exact ⟨ext_of_cell hx a0, ext_of_cell hx a1, ext_of_cell hx a2, ext_of_cell hx a3, ext_of_cell hx a4, ext_of_cell hx a5, ext_of_cell hx a6, ext_of_cell hx a7, ext_of_cell hx a8, ext_of_cell hx a9, ext_of_cell hx a10, ext_of_cell hx a11, ext_of_cell hx a12, ext_of_cell hx a13, ext_of_cell hx a14, ext_of_cell hx a15, ext_of_cell hx a16, ext_of_cell hx a17, ext_of_cell hx a18, ext_of_cell hx a19, ext_of_cell hx a20, ext_of_cell hx a21⟩
end
section
open Go Go.RowKit
theorem InY.after {m : DM} {q r : Int} {s : ShM} {v : Nat} {b : List Nat} (h : InY m q r s v b) : After m (fun k => SomeU r k 2 v (ManY v s) ∧ HeldY k r s b) := fun keep => by
  obtain ⟨h1, h2, h3, h4⟩ := (Tch.at_ h.cd (fun _ => False)).again keep
  exact ⟨h1, h2, h3, (two_someU h.two).of_eq (h4 _ id) (h4 _ id), h.held.same fun t _ => h4 t id⟩
theorem InY.power {m : DM} {r : Int} {s : ShM} {v : Nat} {b : List Nat} (h : InY m (-1) r s v b) (k : Nat) : ∃ m', m.setPower (k : Int) = (0, m') ∧ InY m' (k : Int) r s v b := by
  obtain ⟨m', h1, h2, h3⟩ := h.cd.power_ k
  refine ⟨m', h1, h2, ?_, h.zero, h.held.same fun t _ => h3 t⟩
  have := h.two
  unfold TwoU at this ⊢
  rw [h3, h3]
  exact this
theorem InY.either {m : DM} {k : Nat} {r inc : Int} {s : ShM} {v : Nat} {b : List Nat} (h : InY m (k : Int) r s v b) (hr : 0 ≤ r ∧ r ≤ 6) (hc : 1 ≤ inc ∧ inc ≤ 1099511627776) (hv : v < 1099511627776) {i : Nat} (hi : s.ix < i ∧ i ≤ 1099511627752) {c : List Nat} (hn : c.length ≤ 640) (hlt : ∀ x ∈ c, x < 256) :
    ∃ E m', m.putY r inc (nextY s i (chunkN c.length)) (splitL c) = (E, m') ∧ (E = 0 ∨ E = 5) ∧ After m' fun n => (E = 5 ∧ SomeU r n 2 v (ManY v s) ∧ HeldY n r s b) ∨ (SomeU r n 2 (v + 1) (ManY (v + 1) (nextY s i (chunkN c.length))) ∧ HeldY n r (nextY s i (chunkN c.length)) c) := by
  obtain ⟨m', hm⟩ := h.install (by omega) hr hc hv hi hn hlt
  rcases hm with ⟨h1, q, _, _, h2⟩ | ⟨_, h1, h2⟩
  · exact ⟨0, m', h1, .inl rfl, h2.after.mono fun n hh => .inr hh⟩
  · refine ⟨5, m', h1, .inr rfl, h2.mono fun n hh => hh.imp (fun h => ⟨rfl, h⟩) fun h => ⟨?_, h.2⟩⟩
    unfold ManY
    rw [if_neg (by omega)]
    exact h.1
section
variable {w0 w : World} {d : Nat} {F : Nat → Prop} {m : DM}
theorem crash_dkY (h : DK w0 w d F m) (kA : Option Addr) (kn kc : Nat) (kl : List Bool) (hk : Vs w0 w0.heap.size kA kn kc (kl.map .bool)) (h0 : (m.crash kl).1 = 0) : Calls Tryz.prog 40 #[.pointer (some ⟨d, 0, none⟩), .slice kA kn kc] w fun e w' => e = .returned (.int .i64 0) ∧ DK w0 w' d (grow F w w') (m.crash kl).2 := by
  have := crash_pd h.disk kA kn kc kl ((hk.below h.bel).more h.bel.size) (h.vs hk)
  rw [h0] at this
  exact this.mono fun _ _ hh => ⟨hh.1, h.step hh.2.1 hh.2.2⟩
theorem start_dkY (h : DK w0 w d F m) (h0 : m.start.1 = 0) : Calls Tryz.prog 41 #[.pointer (some ⟨d, 0, none⟩)] w fun e w' => e = .returned (.int .i64 0) ∧ DK w0 w' d (grow F w w') m.start.2 := by
  have := start_pd h.disk
  rw [h0] at this
  exact this.mono fun _ _ hh => ⟨hh.1, h.step hh.2.1 hh.2.2⟩
theorem ldy_power {g : Nat} {r inc : Int} {s : ShM} {m' : DM} (h : LdY w0 w d g r inc F m s) (n : Int) (hn : n ≤ 9223372036854775807) (hp : m.setPower n = (0, m')) :
    Calls Tryz.prog 39 #[.pointer (some ⟨d, 0, none⟩), .int .i64 n] w fun e w' => e = .returned (.int .i64 0) ∧ ∃ F', LdY w0 w' d g r inc F' m' s := by
  have := power_pd h.dk.disk n hn
  rw [hp] at this
  exact this.mono fun _ _ hh => ⟨hh.1, h.step hh.2.1 hh.2.2⟩
theorem ldy_put {g : Nat} {r inc : Int} {s : ShM} {m' : DM} {E : Int} {q : Int} (h : LdY w0 w d g r inc F m s) (hL : LaidY w0) (hcd : CD m q) (hs : s = {} ∨ manOk s = true) (hr : 0 ≤ r ∧ r ≤ 6) (hc : 1 ≤ inc ∧ inc ≤ 1099511627776) (i : Nat) (hix : s.ix < i ∧ i ≤ 1099511627752) (A : Option Addr) (n c : Nat) (bs : List Nat) (hb : By w A n c bs) (hn : n ≤ 640)
    (hp : m.putY r inc (nextY s i (chunkN bs.length)) (splitL bs) = (E, m')) :
    Calls Tryz.prog 30 #[.pointer (some ⟨g, 0, none⟩), .int .i64 (i : Int), .slice A n c] w fun e w' => e = .returned (.int .i64 E) ∧ ∃ F' s', LdY w0 w' d g r inc F' m' s' := by
  refine (yinstall_yes h.sh h.dk.disk h.off (h.laid hL) hs hr hc hcd.b.size i hix A n c bs hb hn (by rw [hcd.b.waits]; simp)).mono ?_
  rintro e w' ⟨he, hins⟩
  rw [hp] at he hins
  obtain ⟨F', hl⟩ := h.ins hins
  exact ⟨he, F', _, hl⟩
end
end
section
open Go Go.RowKit
theorem eqlY_some_nil (a : Addr) (w : World) : (binOp .eql 76 (.pointer (some a)) (.pointer none)).run Tryz.prog w = .ok (.bool false) w := by
  have h : ∀ d : Nat, (Op.equalIn (d + 1) 76 (.pointer (some a)) (.pointer none)).run Tryz.prog w = .ok false w := fun d => by
    simp [Op.equalIn, run_underlying Tryz.underlying76]
  simp only [binOp]
  simp [Op.equal, Op.maxDepth, h 9999]
theorem InY.holds {m : DM} {pw r : Int} {s : ShM} {v : Nat} {b : List Nat} (h : InY m pw r s v b) (hr : 0 ≤ r ∧ r ≤ 6) {i : Int} (hi : (s.ix : Int) = i) : m.holdY r s i b = true :=
  decide_eq_true ⟨hi, (h.held.all_ h.cd hr).1, (h.held.all_ h.cd hr).2, h.held.unhurt h.cd hr⟩
theorem ldy_holds {w0 w : World} {d g : Nat} {r inc : Int} {F : Nat → Prop} {m : DM} {s : ShM} {v : Nat} {b : List Nat} (h : LdY w0 w d g r inc F m s) (hL : LaidY w0) (hi : InY m (-1) r s v b) (hr : 0 ≤ r ∧ r ≤ 6) (i : Int) (hx : (s.ix : Int) = i) (A : Option Addr) (n c : Nat) (hb : By w A n c b) :
    Calls Tryz.prog 42 #[.pointer (some ⟨g, 0, none⟩), .int .i64 i, .slice A n c] w fun e w' => e = .returned (.bool true) ∧ Ext w w' := by
  have := yholds_of h.sh h.dk.disk (h.laid0 hL) hi.held.ct8.1 hi.held.ct8.2 (by rw [hi.cd.b.waits]; simp) i A n c b hb
  rw [hi.holds hr hx] at this
  exact this
set_option maxHeartbeats 3200000 in
theorem snapRises_of (A : Option Addr) (n c : Nat) (L : List Lst) (ix : Int) (B : Option Addr) (nb cb : Nat) (bs : List Nat) (w : World) (hls : Lsts w w.heap.size A n c L) (hb : By w B nb cb bs) (hL : LaidY w)
    (haw : Calls Tryz.prog 36 #[] w fun e w' => e = .returned (.bool true) ∧ Ext w w') :
    Calls Tryz.prog 8 #[.slice A n c, .int .i64 ix, .slice B nb cb] w fun e w' => e = .returned (.bool true) ∧ Ext w w' := by
  have he := eqlY_some_nil
  have hcl := hls.cap
  have hml := hls.most
  have hcb := hb.cap
  have hmb := hb.most
  have HLS := Lib.hid hls
  have HB := Lib.hid hb
  have HL := Lib.hid hL
  have HAW := Lib.hid haw
  clear hls hb hL haw
  go_enter Tryz.func8, Tryz.ntmps8
  go_wp2_with fail
  refine HAW.out.mono ?_
  rintro e w1 ⟨rfl, hx⟩
  have HX1 := Lib.hid hx
  clear hx
  go_wp2_with fail
  refine (ygreat_of A n c L (HLS.out.ext HX1.out)).mono ?_
  rintro e w2 ⟨b, rfl, rfl, hgr⟩
  cases b with
  | true =>
    go_wp2_with fail
    go_ret
    exact ⟨rfl, HX1.out⟩
  | false =>
    obtain ⟨hn, hin⟩ := hgr rfl
    have HIN := Lib.hid hin
    clear hgr hin
    by_cases h7 : (nb : Int) ≤ 700
    case neg =>
      have h7 : (700 : Int) < (nb : Int) := by omega
      go_wp2_with fail
      go_ret
      exact ⟨rfl, HX1.out⟩
    go_wp2_with fail
    refine (wnew_dk HX1.out).mono ?_
    rintro e w2 ⟨d, F1, rfl, hk⟩
    have HK := Lib.hid hk
    clear hk
    go_wp2_with fail
    refine (yinstalled_of HK.out HL.out A n c L HLS.out hn HIN.out).mono ?_
    rintro e w3 ⟨g, F3, m3, s, rfl, hd3, hi3, hx3⟩
    have HD3 := Lib.hid hd3
    have HI3 := Lib.hid hi3
    have hsx := hx3
    clear hd3 hi3 hx3
    have hold : ∃ oA on oc, Hid (By w3 oA on oc (lastY L n)) ∧ ((n = 0 ∧ oA = none ∧ on = 0 ∧ oc = 0) ∨ (∃ k gl ol, n = k + 1 ∧ A = some ⟨gl, ol, none⟩ ∧ w3.cell? ⟨gl, ol + k, none⟩ = some (.slice oA on oc))) := by
      cases n with
      | zero => exact ⟨none, 0, 0, Lib.hid (By.nil_ _), .inl ⟨rfl, rfl, rfl, rfl⟩⟩
      | succ k =>
        obtain ⟨gl, ol, a, eA, _, ha, hby, hcell⟩ := (HLS.out.ext HD3.out.dk.bel).at_ (show k < k + 1 by omega)
        exact ⟨a.A, a.n, a.c, Lib.hid (by rw [lastY_succ ha]; exact hby), .inr ⟨k, gl, ol, rfl, eA, hcell⟩⟩
    obtain ⟨oA, on, oc, HO, hold⟩ := hold
    by_cases hr : (s.ix : Int) < ix ∧ ix ≤ 1099511627752
    · by_cases h6 : nb ≤ 640
      · obtain ⟨i, rfl⟩ : ∃ i : Nat, ix = (i : Int) := ⟨ix.toNat, by omega⟩
        have hins := ldy_install HD3.out HL.out HI3.out (by omega) (by omega) (by omega) i (by omega) B nb cb bs (HB.out.ext HD3.out.dk.bel) h6
        have HINS := Lib.hid hins
        have hq1 : (8 * (n : Int)) < (i : Int) := by omega
        have hq2 : (i : Int) ≤ 1099511627752 := hr.2
        have h6' : (nb : Int) ≤ 640 := by omega
        clear hins hr
        rcases hold with ⟨rfl, rfl, rfl, rfl⟩ | ⟨k, gl, ol, rfl, rfl, hcell⟩
        · have hn0 : True := trivial
          go_wp2_with fail
          refine HINS.out.mono ?_
          rintro e w4 ⟨rfl, F4, m4, hd4, hi4⟩
          have HD4 := Lib.hid hd4
          have HI4 := Lib.hid hi4
          clear hd4 hi4
          go_wp2_with fail
          refine (ldy_holds HD4.out HL.out HI4.out (by omega) (i : Int) rfl B nb cb (HB.out.ext HD4.out.dk.bel)).mono ?_
          rintro e w5 ⟨rfl, hx⟩
          have HX5 := Lib.hid hx
          clear hx
          go_wp2_with fail
          go_ret
          exact ⟨rfl, HD4.out.dk.bel.trans HX5.out⟩
        · have hk1 : ((k : Int) + 1 - 1) = (k : Int) := by omega
          go_wp2_with fail
          refine HINS.out.mono ?_
          rintro e w4 ⟨rfl, F4, m4, hd4, hi4⟩
          have HD4 := Lib.hid hd4
          have HI4 := Lib.hid hi4
          clear hd4 hi4
          go_wp2_with fail
          refine (ldy_holds HD4.out HL.out HI4.out (by omega) (i : Int) rfl B nb cb (HB.out.ext HD4.out.dk.bel)).mono ?_
          rintro e w5 ⟨rfl, hx⟩
          have HX5 := Lib.hid hx
          clear hx
          go_wp2_with fail
          go_ret
          exact ⟨rfl, HD4.out.dk.bel.trans HX5.out⟩
      · have h6' : (640 : Int) < (nb : Int) := by omega
        have HINS := Lib.hid (yinstall_long HD3.out.sh (by omega) ix hr B nb cb (by omega))
        have hq1 : (8 * (n : Int)) < ix := by omega
        have hq2 : ix ≤ 1099511627752 := hr.2
        clear hr
        rcases hold with ⟨rfl, rfl, rfl, rfl⟩ | ⟨k, gl, ol, rfl, rfl, hcell⟩
        · have hn0 : True := trivial
          go_wp2_with fail
          refine HINS.out.mono ?_
          rintro e w4 ⟨rfl, hx⟩
          have HX4 := Lib.hid hx
          clear hx
          go_wp2_with fail
          refine (ldy_holds (HD3.out.ext HX4.out) HL.out HI3.out (by omega) _ (by omega) _ _ _ (HO.out.ext HX4.out)).mono ?_
          rintro e w5 ⟨rfl, hx⟩
          have HX5 := Lib.hid hx
          clear hx
          go_wp2_with fail
          go_ret
          exact ⟨rfl, (HD3.out.dk.bel.trans HX4.out).trans HX5.out⟩
        · have hk1 : ((k : Int) + 1 - 1) = (k : Int) := by omega
          go_wp2_with fail
          refine HINS.out.mono ?_
          rintro e w4 ⟨rfl, hx⟩
          have HX4 := Lib.hid hx
          clear hx
          go_wp2_with fail
          refine (ldy_holds (HD3.out.ext HX4.out) HL.out HI3.out (by omega) _ (by omega) _ _ _ (HO.out.ext HX4.out)).mono ?_
          rintro e w5 ⟨rfl, hx⟩
          have HX5 := Lib.hid hx
          clear hx
          go_wp2_with fail
          go_ret
          exact ⟨rfl, (HD3.out.dk.bel.trans HX4.out).trans HX5.out⟩
    · have HINS := Lib.hid (yinstall_arg HD3.out.sh (by omega) ix hr B nb cb)
      by_cases hq1 : ix ≤ 8 * (n : Int)
      · clear hr
        rcases hold with ⟨rfl, rfl, rfl, rfl⟩ | ⟨k, gl, ol, rfl, rfl, hcell⟩
        · have hn0 : True := trivial
          go_wp2_with fail
          refine HINS.out.mono ?_
          rintro e w4 ⟨rfl, rfl⟩
          go_wp2_with fail
          refine (ldy_holds HD3.out HL.out HI3.out (by omega) _ (by omega) _ _ _ HO.out).mono ?_
          rintro e w5 ⟨rfl, hx⟩
          have HX5 := Lib.hid hx
          clear hx
          go_wp2_with fail
          go_ret
          exact ⟨rfl, HD3.out.dk.bel.trans HX5.out⟩
        · have hk1 : ((k : Int) + 1 - 1) = (k : Int) := by omega
          go_wp2_with fail
          refine HINS.out.mono ?_
          rintro e w4 ⟨rfl, rfl⟩
          go_wp2_with fail
          refine (ldy_holds HD3.out HL.out HI3.out (by omega) _ (by omega) _ _ _ HO.out).mono ?_
          rintro e w5 ⟨rfl, hx⟩
          have HX5 := Lib.hid hx
          clear hx
          go_wp2_with fail
          go_ret
          exact ⟨rfl, HD3.out.dk.bel.trans HX5.out⟩
      · have hq1 : 8 * (n : Int) < ix := by omega
        have hq2 : (1099511627752 : Int) < ix := by omega
        clear hr
        rcases hold with ⟨rfl, rfl, rfl, rfl⟩ | ⟨k, gl, ol, rfl, rfl, hcell⟩
        · have hn0 : True := trivial
          go_wp2_with fail
          refine HINS.out.mono ?_
          rintro e w4 ⟨rfl, rfl⟩
          go_wp2_with fail
          refine (ldy_holds HD3.out HL.out HI3.out (by omega) _ (by omega) _ _ _ HO.out).mono ?_
          rintro e w5 ⟨rfl, hx⟩
          have HX5 := Lib.hid hx
          clear hx
          go_wp2_with fail
          go_ret
          exact ⟨rfl, HD3.out.dk.bel.trans HX5.out⟩
        · have hk1 : ((k : Int) + 1 - 1) = (k : Int) := by omega
          go_wp2_with fail
          refine HINS.out.mono ?_
          rintro e w4 ⟨rfl, rfl⟩
          go_wp2_with fail
          refine (ldy_holds HD3.out HL.out HI3.out (by omega) _ (by omega) _ _ _ HO.out).mono ?_
          rintro e w5 ⟨rfl, hx⟩
          have HX5 := Lib.hid hx
          clear hx
          go_wp2_with fail
          go_ret
          exact ⟨rfl, HD3.out.dk.bel.trans HX5.out⟩
end
end Go.Proofs.YtgcinagkbdcgiaaGreatDoor
