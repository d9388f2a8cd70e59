/-
  The contract of snap's Mend.
-/
import Derived.Test.YtgcinagkbdcgiaaGreatDoorM00
import Derived.Test.YtgcinagkbdcgiaaGreatDoorM09
import Derived.Test.YtgcinagkbdcgiaaGreatDoorM12
import Derived.Test.YtgcinagkbdcgiaaGreatDoorM14
import Derived.Test.YtgcinagkbdcgiaaGreatDoorM15
import Derived.Test.YtgcinagkbdcgiaaGreatDoorM20
import Derived.Test.YtgcinagkbdcgiaaGreatDoorM22
import Derived.Test.YtgcinagkbdcgiaaGreatDoorM23
import Derived.Test.YtgcinagkbdcgiaaGreatDoorM25
import Derived.Test.YtgcinagkbdcgiaaGreatDoorM28
import Derived.Test.YtgcinagkbdcgiaaGreatDoorM29
namespace Go.Proofs.YtgcinagkbdcgiaaGreatDoor
set_option maxRecDepth 100000
section
open Go Go.RowKit
def DM.mendY (m : DM) (r inc : Int) (s : ShM) (k : Int) (c : List Nat) : Int × DM := if fitsZ k s.ct c.length = true ∧ m.chB r s k.toNat = false then m.wrY r inc s k.toNat [c] else (2, m)
theorem lsts_one {w : World} {A : Option Addr} {n c : Nat} {l : List Nat} (hb : By w A n c l) : Lsts (w.alloc (.cells #[.slice A n c] 45)) (w.alloc (.cells #[.slice A n c] 45)).heap.size (some ⟨w.heap.size, 0, none⟩) 1 1 [⟨A, n, c, l⟩] := by
  have hx := (Ext.refl w).alloc (.cells #[.slice A n c] 45)
  refine ⟨rfl, Nat.le_refl _, by omega, fun a ha => ?_, fun _ => ⟨w.heap.size, 0, rfl, by simp, fun j a ha => ?_⟩, fun e => by cases e⟩
  · obtain rfl : a = ⟨A, n, c, l⟩ := by simpa using ha
    exact hb.ext hx
  · cases j with
    | zero =>
      obtain rfl : ⟨A, n, c, l⟩ = a := by simpa using ha
      exact cell_of_row _ w.heap.size 0 _ _ _ (heap_alloc_new w _)
    | succ j => simp at ha
set_option maxHeartbeats 1600000 in
theorem ymend_ofN {w : World} {g d : Nat} {r inc : Int} {s : ShM} {F : Nat → Prop} {m : DM} (h : ShAt w g d r inc s) (hd : PDisk w d F m) (hg : ¬ F g) (hLM : ∀ V, Mod F w V → LaidY V) (hs : s = {} ∨ manOk s = true) (hr : 0 ≤ r ∧ r ≤ 6) (hc : 1 ≤ inc ∧ inc ≤ 1099511627776)
    (k : Int) (A : Option Addr) (n c : Nat) (l : List Nat) (hb : By w A n c l) (hoff : 0 < n → Off F A) (hfew : m.waits.length ≤ 900000) :
    Calls Tryz.prog 32 #[.pointer (some ⟨g, 0, none⟩), .int .i64 k, .slice A n c] w fun e w' => e = .returned (.int .i64 (m.mendY r inc s k l).1) ∧ InsY w g d r inc F (m.mendY r inc s k l).2 s w' := by
  have hct8 : s.ct ≤ 8 ∧ s.ar ≤ 1 := by
    rcases hs with rfl | hs
    · exact ⟨Nat.zero_le _, Nat.zero_le _⟩
    · have := manOk_iff.1 hs; omega
  have hL := hLM w (Mod.refl _ w)
  have hlen := hb.len
  obtain ⟨c0, c1, c2, c3, c4, c5, c6⟩ := h.cells
  have HM := Lib.hid (ymade_yes g w c0)
  have hmb := ymay_of s.ix s.ar s.ct hct8.1 k A n c l w hb
  have stay : ∀ w', Ext w w' → InsY w g d r inc F m s w' := fun w' hx => (WY.start hd |>.ext hx).ins h hg
  have HST := Lib.hid stay
  by_cases hf : fitsZ k s.ct n = true
  · have hq := fitsZ_iff.1 hf
    obtain ⟨j, rfl⟩ : ∃ j : Nat, k = (j : Int) := ⟨k.toNat, by omega⟩
    have hjc : j < s.ct := by omega
    have hih : ∀ V, Ext w V → Calls Tryz.prog 106 #[.pointer (some ⟨g, 0, none⟩), .int .i64 (j : Int)] V fun e w' => e = .returned (.bool (!m.chB r s j)) ∧ Ext V w' := fun V hV => yishurt_of (h.ext hV) (hd.ext hV) (hL.ext hV) hct8.1 hct8.2 j hjc (by omega)
    have hmo : manOk s = true := by
      rcases hs with rfl | hs
      · exact absurd hjc (Nat.not_lt_zero _)
      · exact hs
    have hse := sealY (k := j) (c := l) hr hc hmo (by omega) (by omega)
    rw [hf] at hmb
    have HMB := Lib.hid hmb
    cases hcb : m.chB r s j with
    | true =>
      rw [hcb, Bool.not_true] at hih
      have he : m.mendY r inc s (j : Int) l = (2, m) := by unfold DM.mendY; rw [if_neg (by rw [Int.toNat_natCast, hcb]; simp)]
      rw [he]
      have HIH := Lib.hid hih
      clear h hd hg hLM hs hr hc hb hoff hfew hct8 hL hlen hmb stay hf hq hih hmo hse hcb he c0 c1 c2 c3
      go_enter Tryz.func32, Tryz.ntmps32
      go_wp2_with fail
      refine HM.out.mono ?_
      rintro e w1 ⟨rfl, rfl⟩
      go_wp2_with fail
      refine HMB.out.mono ?_
      rintro e w1 ⟨rfl, hx⟩
      have HX1 := Lib.hid hx
      clear hx
      go_wp2_with fail
      refine (HIH.out _ HX1.out).mono ?_
      rintro e w2 ⟨rfl, hx⟩
      have HX2 := Lib.hid (HX1.out.trans hx)
      clear hx
      go_wp2_with fail
      go_ret
      exact ⟨rfl, HST.out _ HX2.out⟩
    | false =>
      rw [hcb, Bool.not_false] at hih
      have he : m.mendY r inc s (j : Int) l = m.wrY r inc s j [l] := by unfold DM.mendY; rw [if_pos ⟨by rw [hlen]; exact hf, by rw [Int.toNat_natCast]; exact hcb⟩, Int.toNat_natCast]
      rw [he]
      obtain ⟨ix, ar, ct⟩ := s
      dsimp only at hse c4 c5 c6 hct8 hjc
      have hwr : ∀ V, Ext w V → Calls Tryz.prog 96 #[.pointer (some ⟨g, 0, none⟩), .agg #[.int .i64 (ix : Int), .int .i64 (ar : Int), .int .i64 (ct : Int)], .int .i64 (j : Int), .slice (some ⟨V.heap.size, 0, none⟩) 1 1] (V.alloc (.cells #[.slice A n c] 45)) fun e w' => e = .returned (.int .i64 (m.wrY r inc ⟨ix, ar, ct⟩ j [l]).1) ∧ InsY w g d r inc F (m.wrY r inc ⟨ix, ar, ct⟩ j [l]).2 ⟨ix, ar, ct⟩ w' := fun V hV => by
        have hx : Ext w (V.alloc (.cells #[.slice A n c] 45)) := hV.alloc _
        have hnl : n ≤ 80 := hq.2.2.2.2.1
        refine (ywrite_ofN (h.ext hx) (hd.ext hx) hg (fun U hU => hLM U ((Mod.of_ext hx).trans hU fun _ hi => .inl hi)) ix ar ct hct8.2 j (some ⟨V.heap.size, 0, none⟩) 1 1 [⟨A, n, c, l⟩] (lsts_one (hb.ext hV)) (fun p hp hf => ?_) (fun a ha => ?_) (by omega) (fun a ha => ?_) (fun i a ha => ?_) (by omega)).mono ?_
        · cases hp
          have h1 := hd.lt _ hf
          have h2 := hV.size
          dsimp only at h1
          omega
        · obtain rfl : a = ⟨A, n, c, l⟩ := by simpa using ha
          exact hoff
        · obtain rfl : a = ⟨A, n, c, l⟩ := by simpa using ha
          dsimp only
          omega
        · cases i with
          | zero =>
            obtain rfl : ⟨A, n, c, l⟩ = a := by simpa using ha
            exact hse
          | succ i => simp at ha
        · rintro e w' ⟨he, F', hw⟩
          exact ⟨he, (hw.base hx).ins h hg⟩
      have HIH := Lib.hid hih
      have HWR := Lib.hid hwr
      have H := Lib.hid h
      clear h hd hg hLM hs hr hc hb hoff hfew hct8 hL hlen hmb stay hf hq hih hmo hse hcb he c0 c1 c2 c3 hwr hjc
      go_enter Tryz.func32, Tryz.ntmps32
      go_wp2_with fail
      refine HM.out.mono ?_
      rintro e w1 ⟨rfl, rfl⟩
      go_wp2_with fail
      refine HMB.out.mono ?_
      rintro e w1 ⟨rfl, hx⟩
      have HX1 := Lib.hid hx
      clear hx
      go_wp2_with fail
      refine (HIH.out _ HX1.out).mono ?_
      rintro e w2 ⟨rfl, hx⟩
      have HX2 := Lib.hid (HX1.out.trans hx)
      obtain ⟨_, _, _, _, d4, d5, d6⟩ := (H.out.ext HX2.out).cells
      clear hx c4 c5 c6
      go_wp2_with fail
      refine (HWR.out w2 HX2.out).mono ?_
      rintro e w3 ⟨rfl, hi⟩
      have HI := Lib.hid hi
      clear hi
      go_wp2_with fail
      go_ret
      exact ⟨rfl, HI.out⟩
  · have hff : fitsZ k s.ct n = false := by simpa using hf
    have he : m.mendY r inc s k l = (2, m) := by unfold DM.mendY; rw [if_neg (by rw [hlen, hff]; simp)]
    rw [he]
    rw [hff] at hmb
    have HMB := Lib.hid hmb
    clear h hd hg hLM hs hr hc hb hoff hfew hct8 hL hlen hmb stay hf hff he c0 c1 c2 c3
    go_enter Tryz.func32, Tryz.ntmps32
    go_wp2_with fail
    refine HM.out.mono ?_
    rintro e w1 ⟨rfl, rfl⟩
    go_wp2_with fail
    refine HMB.out.mono ?_
    rintro e w1 ⟨rfl, hx⟩
    have HX1 := Lib.hid hx
    clear hx
    go_wp2_with fail
    go_ret
    exact ⟨rfl, HST.out _ HX1.out⟩
theorem ymend_of {w : World} {g d : Nat} {r inc : Int} {s : ShM} {F : Nat → Prop} {m : DM} (h : ShAt w g d r inc s) (hd : PDisk w d F m) (hg : ¬ F g) (hLM : ∀ V, Mod F w V → LaidY V) (hs : s = {} ∨ manOk s = true) (hr : 0 ≤ r ∧ r ≤ 6) (hc : 1 ≤ inc ∧ inc ≤ 1099511627776)
    (k : Int) (A : Option Addr) (n c : Nat) (l : List Nat) (hb : By w A n c l) (hoff : Off F A) (hfew : m.waits.length ≤ 900000) :
    Calls Tryz.prog 32 #[.pointer (some ⟨g, 0, none⟩), .int .i64 k, .slice A n c] w fun e w' => e = .returned (.int .i64 (m.mendY r inc s k l).1) ∧ InsY w g d r inc F (m.mendY r inc s k l).2 s w' :=
  ymend_ofN h hd hg hLM hs hr hc k A n c l hb (fun _ => hoff) hfew
end
section
open Go Go.RowKit
section
variable {w0 w : World} {d : Nat} {F : Nat → Prop} {m : DM}
theorem DK.st (h : DK w0 w d F m) {m' : DM} {w' : World} (k : Step d F w m' w') : DK w0 w' d (grow F w w') m' := h.step k.1 k.2
theorem DK.laid (h : DK w0 w d F m) (hL : LaidF w0) : ∀ V, Mod F w V → LaidF V := fun _ hm => hL.ext (Below.mod h.bel hm h.bel.size h.low)
end
end
section
open Go Go.RowKit
structure LdY (w0 w : World) (d g : Nat) (r inc : Int) (F : Nat → Prop) (m : DM) (s : ShM) : Prop where
  dk : DK w0 w d F m
  low : w0.heap.size ≤ g
  off : ¬ F g
  sh : ShAt w g d r inc s
section
variable {w0 w w' : World} {d g : Nat} {r inc : Int} {F : Nat → Prop} {m m' : DM} {s s' : ShM}
theorem LdY.ext (h : LdY w0 w d g r inc F m s) (hx : Ext w w') : LdY w0 w' d g r inc F m s := ⟨h.dk.ext hx, h.low, h.off, h.sh.ext hx⟩
theorem LdY.laid (h : LdY w0 w d g r inc F m s) (hL : LaidY w0) : ∀ V, Mod F w V → LaidY V := fun _ hm => hL.ext (Below.mod h.dk.bel hm h.dk.bel.size h.dk.low)
theorem LdY.laid0 (h : LdY w0 w d g r inc F m s) (hL : LaidY w0) : LaidY w := hL.ext h.dk.bel
theorem LdY.ins (h : LdY w0 w d g r inc F m s) (k : InsY w g d r inc F m' s' w') : ∃ F', LdY w0 w' d g r inc F' m' s' := by
  obtain ⟨F', hd, sub, hng, hm, hs⟩ := k
  refine ⟨F', ⟨hd, fun k hk => ?_, Below.mod h.dk.bel hm h.dk.bel.size fun i hi => hi.elim (h.dk.low i) fun e => by rw [e]; exact h.low⟩, h.low, hng, hs⟩
  by_cases hlt : k < w.heap.size
  · exact h.dk.low k (sub k hlt hk)
  · have := h.dk.bel.size; omega
theorem LdY.of_open (h : DK w0 w d F m) (k : OpnY w d g r inc F m' s' w') : ∃ F', LdY w0 w' d g r inc F' m' s' := by
  obtain ⟨hg, F', hd, sub, hng, hm, hs⟩ := k
  refine ⟨F', ⟨hd, fun k hk => ?_, Below.mod h.bel hm h.bel.size h.low⟩, Nat.le_trans h.bel.size hg, hng, hs⟩
  by_cases hlt : k < w.heap.size
  · exact h.low k (sub k hlt hk)
  · have := h.bel.size; omega
theorem LdY.step (h : LdY w0 w d g r inc F m s) (hp : PDisk w' d (grow F w w') m') (hm : Mod F w w') : ∃ F', LdY w0 w' d g r inc F' m' s :=
  ⟨grow F w w', h.dk.step hp hm, h.low, grow_not h.off h.sh.lt, h.sh.mod hm h.off⟩
theorem ldy_open {v : Nat} {b : List Nat} (h : DK w0 w d F m) (hL : LaidY w0) (hd : CD m (-1)) (hr : 0 ≤ r ∧ r ≤ 6) (hc : 1 ≤ inc ∧ inc ≤ 1099511627776) (hu : SomeU r m 2 v (ManY v s)) (hh : HeldY m r s b) (hz : v = 0 ↔ s.ix = 0) :
    Calls Tryz.prog 27 #[.pointer (some ⟨d, 0, none⟩), .int .i64 r, .int .i64 inc] w fun e w' => ∃ g F' m', e = .returned (.tuple #[.pointer (some ⟨g, 0, none⟩), .int .i64 0]) ∧ LdY w0 w' d g r inc F' m' s ∧ InY m' (-1) r s v b := by
  obtain ⟨h1, h2, m', h3, h4⟩ := hu.openY hd hh hz
  have hw := hd.b.waits
  have hsz := hd.b.size
  refine (yopen_yes h.disk (hL.ext h.bel) r inc (by rw [hsz]; omega) (inI_iff.2 hc) (knownY hr hsz) (by rw [hw]; simp) h1 (by rw [h3])).mono ?_
  rintro e w' ⟨g, he, ho⟩
  rw [h3] at ho
  have ho2 : OpnY w d g r inc F m' s w' := by
    have : ldS3 (m.loadV r 2) (m.loadB r 2) (m.loadE r 2) = s := h2
    rw [this] at ho
    exact ho
  obtain ⟨F', hl⟩ := LdY.of_open h ho2
  exact ⟨g, F', m', he, hl, h4⟩
theorem ldy_install {v : Nat} {b : List Nat} (h : LdY w0 w d g r inc F m s) (hL : LaidY w0) (hi : InY m (-1) r s v b) (hr : 0 ≤ r ∧ r ≤ 6) (hc : 1 ≤ inc ∧ inc ≤ 1099511627776) (hv : v < 1099511627776) (i : Nat) (hix : s.ix < i ∧ i ≤ 1099511627752) (A : Option Addr) (n c : Nat) (bs : List Nat) (hb : By w A n c bs) (hn : n ≤ 640) :
    Calls Tryz.prog 30 #[.pointer (some ⟨g, 0, none⟩), .int .i64 (i : Int), .slice A n c] w fun e w' => e = .returned (.int .i64 0) ∧ ∃ F' m', LdY w0 w' d g r inc F' m' (nextY s i (chunkN bs.length)) ∧ InY m' (-1) r (nextY s i (chunkN bs.length)) (v + 1) bs := by
  have hw := hi.cd.b.waits
  have hsz := hi.cd.b.size
  obtain ⟨m', hm⟩ := hi.install (by omega) hr hc hv hix (c := bs) (by rw [hb.len]; exact hn) hb.rd.lt
  rcases hm with ⟨h1, q, _, hq, h2⟩ | ⟨h0, _⟩
  · obtain rfl := hq rfl
    refine (yinstall_yes h.sh h.dk.disk h.off (h.laid hL) hi.held.kind hr hc hsz i hix A n c bs hb hn (by rw [hw]; simp)).mono ?_
    rintro e w' ⟨he, hins⟩
    rw [h1] at he hins
    dsimp only at hins
    rw [if_pos rfl] at hins
    obtain ⟨F', hl⟩ := h.ins hins
    exact ⟨he, F', m', hl, h2⟩
  · exact absurd rfl h0
end
end
section
open Go Go.RowKit
theorem CD.loseY {m : DM} {pw : Int} {s : Nat} (h : CD m pw) (hs : s < 156) : ∃ m', m.lose (s : Int) = (0, m') ∧ CD m' pw ∧ ∀ t, m'.hold t = if t = s then [] else m.hold t := by
  have hok := DM.lose_ok h.b.ok (s : Int)
  have e : m.lose (s : Int) = (0, { m with lost := m.lost.set s true }) := by
    unfold DM.lose
    rw [if_neg (by rw [h.has hs]; simp), Int.toNat_natCast]
  rw [e] at hok
  refine ⟨_, e, ⟨⟨hok, h.b.size, h.b.waits, h.b.down⟩, h.dead, h.power⟩, fun t => ?_⟩
  have hl : s < m.lost.length := by rw [h.b.ok.lost, h.b.size]; exact hs
  show (if (m.lost.set s true).getD t false = true then [] else m.rest.getD t []) = _
  rw [getD_set hl]
  by_cases hst : s = t
  · rw [if_pos hst, if_pos rfl, if_pos hst.symm]
  · rw [if_neg hst, if_neg (show ¬ t = s from fun e => hst e.symm)]
    rfl
theorem HeldY.lose1 {m : DM} {r : Int} {s : ShM} {b : List Nat} (h : HeldY m r s b) (hd : CD m (-1)) (hr : 0 ≤ r ∧ r ≤ 6) (h2 : s.ct = 2) {m' : DM} (hd' : CD m' (-1)) (hh : ∀ t, m'.hold t = if t = sC (8 * s.ar + 1) then [] else m.hold t) :
    m'.hurtK r s s.ct = [1] ∧ m'.allE r s = 130 ∧ m'.chB r s 1 = false := by
  have h8 := h.ct8
  have k0 : m'.kh (8 * s.ar + 0) = m.kh (8 * s.ar + 0) := kh_same (by rw [hh, if_neg (by unfold sC; omega)]) (by rw [hh, if_neg (by unfold sC; omega)])
  have g0 : m'.chB r s 0 = true := by
    have := (h.good hd hr (k := 0) (by omega)).1
    unfold DM.chB at this ⊢
    rw [hd.kb (by omega)] at this
    rw [hd'.kb (by omega), k0]
    exact this
  have g1 : m'.chB r s 1 = false := by
    unfold DM.chB
    rw [hd'.kb (by omega)]
    have e : m'.kh (8 * s.ar + 1) = [] := by
      unfold DM.kh pair2
      rw [hh, if_pos rfl, if_pos (.inl rfl)]
    rw [e]
    exact okC_nil r s 1
  have hk : m'.hurtK r s s.ct = [1] := by
    rw [h2, hurtK_succ, if_neg (by rw [g1]; simp), hurtK_succ, if_pos g0]
    rfl
  refine ⟨hk, ?_, g1⟩
  unfold DM.allE
  rw [if_neg (by rw [hd'.up]; simp), hk, if_neg (by simp)]
theorem HeldY.mend1 {m : DM} {r inc : Int} {s : ShM} {b : List Nat} (h : HeldY m r s b) (hs : manOk s = true) (hr : 0 ≤ r ∧ r ≤ 6) (hc : 1 ≤ inc ∧ inc ≤ 1099511627776) (h2 : s.ct = 2) (hb : ∀ x ∈ b, x < 256) {m' : DM} (hd' : CD m' (-1)) (hh : ∀ t, m'.hold t = if t = sC (8 * s.ar + 1) then [] else m.hold t) :
    ∃ m3, m'.wrY r inc s 1 [chunkL b 1] = (0, m3) ∧ CD m3 (-1) ∧ HeldY m3 r s b := by
  have h8 := h.ct8
  have hc1 : (chunkL b 1).length ≤ 80 ∧ ∀ x ∈ chunkL b 1, x < 256 := ⟨by rw [chunkL_len]; omega, fun x hx => hb x (List.mem_of_mem_drop (List.mem_of_mem_take hx))⟩
  rcases hd'.wrY (by omega) hr hc hs (k := 1) (l := [chunkL b 1]) (by simp) (by simpa using hc1) with ⟨m3, q, e, _, hq, hd3, h3⟩ | ⟨hne, _⟩
  · obtain rfl := hq rfl
    refine ⟨m3, e, hd3, h.ok, h.most, fun k hk => ?_⟩
    obtain ⟨g1, g2⟩ := prsY_get (r := r) (inc := inc) (s := s) [chunkL b 1] 1 0 (by simp)
    obtain ⟨_, _, sp⟩ := frmY_sects (r := r) (inc := inc) (s := s) (k := 1) (c := chunkL b 1) hr hc hs (by omega) hc1.1 hc1.2
    rcases (show k = 0 ∨ k = 1 by omega) with rfl | rfl
    · obtain ⟨inc0, a1, a2, a3⟩ := h.at_ 0 hk
      refine ⟨inc0, a1, a2, (kh_same ?_ ?_).trans a3⟩
      · rw [h3, lastW_none fun x hx e => ?_]
        · rw [Option.getD_none, hh, if_neg (by unfold sC; omega)]
        · have := prsY_low [chunkL b 1] 1 x hx
          unfold sC at *
          omega
      · rw [h3, lastW_none fun x hx e => ?_]
        · rw [Option.getD_none, hh, if_neg (by unfold sC; omega)]
        · have := prsY_low [chunkL b 1] 1 x hx
          unfold sC at *
          omega
    · refine ⟨inc, hc.1, hc.2, ?_⟩
      unfold DM.kh
      have g1' : lastW (prsY r inc s 1 [chunkL b 1]) (sC (8 * s.ar + 1)) = some ((frmY r inc s 1 (chunkL b 1)).take 64) := g1
      have g2' : lastW (prsY r inc s 1 [chunkL b 1]) (sC (8 * s.ar + 1) + 1) = some ((frmY r inc s 1 (chunkL b 1)).drop 64) := g2
      rw [h3, h3, g1', g2']
      exact sp
  · exact absurd rfl hne
end
section
open Go Go.RowKit
section
variable {m : DM} {pw : Int} {s : Nat}
theorem CD.flip (h : CD m pw) (hs : s < 156) (hne : m.hold s ≠ []) (bit : Nat) : ∃ m', m.flip (s : Int) (bit : Int) = (0, m') ∧ CD m' pw ∧ ∀ t, m'.hold t = if t = s then flipB (m.hold s) (bit % 512) else m.hold t := by
  have hok := DM.flip_ok h.b.ok (s : Int) (bit : Int)
  have e : m.flip (s : Int) (bit : Int) = (0, { m with rest := m.rest.set s (flipB (m.rest.getD s []) (bit % 512)) }) := by
    unfold DM.flip
    rw [if_neg (by rw [h.has hs]; simp), Int.toNat_natCast, Int.toNat_natCast]
  rw [e] at hok
  have hnl : m.lost.getD s false = false := by
    unfold DM.hold at hne
    by_cases hl : m.lost.getD s false = true
    · rw [if_pos hl] at hne; exact absurd rfl hne
    · simpa using hl
  have hh : m.hold s = m.rest.getD s [] := by unfold DM.hold; rw [if_neg (by rw [hnl]; simp)]
  refine ⟨_, e, ⟨⟨hok, ?_, h.b.waits, h.b.down⟩, h.dead, h.power⟩, fun t => ?_⟩
  · show (m.rest.set s _).length = 156
    rw [List.length_set]
    exact h.b.size
  · have hl : s < m.rest.length := by have := h.b.size; unfold DM.size at this; omega
    show (if m.lost.getD t false = true then [] else (m.rest.set s _).getD t []) = _
    rw [getD_set hl]
    by_cases hst : s = t
    · subst hst
      rw [if_neg (by rw [hnl]; simp), if_pos rfl, if_pos rfl, hh]
    · rw [if_neg hst, if_neg (show ¬ t = s from fun e => hst e.symm)]
      rfl
end
end
section
open Go Go.RowKit
theorem flip_neY {l : List Nat} {k : Nat} (hk : k < 8 * l.length) : l ≠ flipB l k := by
  intro e
  have hi : k / 8 < l.length := by omega
  have hx : l[k / 8]? = some l[k / 8] := List.getElem?_eq_getElem hi
  have h2 : (flipB l k)[k / 8]? = some (l[k / 8] ^^^ 2 ^ (k % 8)) := by rw [flipB_set hx, List.getElem?_set_self hi]
  rw [← e, hx] at h2
  injection h2 with h2
  have h3 : l[k / 8] ^^^ l[k / 8] = l[k / 8] ^^^ (l[k / 8] ^^^ 2 ^ (k % 8)) := by rw [← h2]
  rw [Nat.xor_self, ← Nat.xor_assoc, Nat.xor_self, Nat.zero_xor] at h3
  have := Nat.two_pow_pos (k % 8)
  omega
theorem flipB_left {x y : List Nat} {k : Nat} (hk : k < 8 * x.length) : flipB x k ++ y = flipB (x ++ y) k := by
  have hi : k / 8 < x.length := by omega
  have hx : x[k / 8]? = some x[k / 8] := List.getElem?_eq_getElem hi
  have hxy : (x ++ y)[k / 8]? = some x[k / 8] := by rw [List.getElem?_append_left hi]; exact hx
  rw [flipB_set hx, flipB_set hxy, List.set_append_left _ _ hi]
theorem flipB_right {x y : List Nat} {k : Nat} (hk : k < 8 * y.length) : x ++ flipB y k = flipB (x ++ y) (8 * x.length + k) := by
  have hi : k / 8 < y.length := by omega
  have hy : y[k / 8]? = some y[k / 8] := List.getElem?_eq_getElem hi
  have e1 : (8 * x.length + k) / 8 = x.length + k / 8 := by omega
  have e2 : (8 * x.length + k) % 8 = k % 8 := by omega
  have hxy : (x ++ y)[(8 * x.length + k) / 8]? = some y[k / 8] := by rw [e1, List.getElem?_append_right (by omega), Nat.add_sub_cancel_left]; exact hy
  rw [flipB_set hy, flipB_set hxy, e1, e2, List.set_append_right _ _ (by omega), Nat.add_sub_cancel_left]
theorem flip_badC {r inc : Int} {s : ShM} {k : Nat} {c : List Nat} (hr : 0 ≤ r ∧ r ≤ 6) (hc : 1 ≤ inc ∧ inc ≤ 1099511627776) (hs : manOk s = true) (hf : fitsC k s.ct c.length = true) (hk : k < 8) (hb : ∀ x ∈ c, x < 256) (p : Nat) (hp : p < 1024) : okC r s k (flipB (frmY r inc s k c) p) = false := by
  have hn : c.length ≤ 80 := by have := fitsC_iff.1 hf; omega
  have hE := sealY hr hc hs hk hn
  have hl : (frmY r inc s k c).length = 128 := by unfold frmY; rw [(sealL_len hE).1]; rfl
  have hlt : ∀ z ∈ frmY r inc s k c, z < 256 := sealL_lt (prZL_lt hs hb)
  have hok := (frmY_back hr hc hs hf).1
  unfold okC at hok
  have hg : goodB (frmY r inc s k c) = true := (stM_one (of_decide_eq_true hok).1).1
  have hp8 : p < 8 * (frmY r inc s k c).length := by rw [hl]; omega
  have hsp := spoilt (ps := [p]) hg hlt (by simp) (fun q hq => by simp only [List.mem_singleton] at hq; subst hq; exact hp8)
  have hg2 : goodB (flipB (frmY r inc s k c) p) = false := hsp.trans (decide_eq_false (flip_neY hp8))
  unfold okC
  refine decide_eq_false fun h => ?_
  have := (stM_one h.1).1
  rw [hg2] at this
  cases this
structure MendY (m : DM) (r : Int) (s : ShM) (b : List Nat) (S : Nat → Bool) : Prop where
  ok : manOk s = true
  ct : s.ct = chunkN b.length
  most : b.length ≤ 640
  lt : ∀ x ∈ b, x < 256
  at_ : ∀ k, k < s.ct → S k = false → ∃ inc, 1 ≤ inc ∧ inc ≤ 1099511627776 ∧ m.kh (8 * s.ar + k) = frmY r inc s k (chunkL b k)
  bad : ∀ k, k < s.ct → S k = true → okC r s k (m.kh (8 * s.ar + k)) = false
section
variable {m m' : DM} {r inc : Int} {s : ShM} {b : List Nat} {S S' : Nat → Bool}
theorem MendY.congr (h : MendY m r s b S) (e : ∀ k, k < s.ct → S k = S' k) : MendY m r s b S' :=
  ⟨h.ok, h.ct, h.most, h.lt, fun k hk hS => h.at_ k hk (by rw [e k hk]; exact hS), fun k hk hS => h.bad k hk (by rw [e k hk]; exact hS)⟩
theorem MendY.of_held (h : HeldY m r s b) (hs : manOk s = true) (hct : s.ct = chunkN b.length) (hlt : ∀ x ∈ b, x < 256) : MendY m r s b fun _ => false :=
  ⟨hs, hct, h.most, hlt, fun k hk _ => h.at_ k hk, fun _ _ h => by cases h⟩
theorem MendY.held (h : MendY m r s b S) (hS : ∀ k, k < s.ct → S k = false) : HeldY m r s b :=
  ⟨.inr ⟨h.ok, h.ct⟩, h.most, fun k hk => h.at_ k hk (hS k hk)⟩
theorem MendY.eight (h : MendY m r s b S) : s.ct ≤ 8 ∧ s.ar ≤ 1 ∧ 1 ≤ s.ct := by have := manOk_iff.1 h.ok; omega
theorem MendY.fits (h : MendY m r s b S) {k : Nat} (hk : k < s.ct) : fitsC k s.ct (chunkL b k).length = true := by
  have := h.ct
  rw [this] at hk ⊢
  exact split_fits h.most hk
theorem MendY.chunk_lt (h : MendY m r s b S) (k : Nat) : ∀ x ∈ chunkL b k, x < 256 := fun x hx => h.lt x (List.mem_of_mem_drop (List.mem_of_mem_take hx))
theorem MendY.told (h : MendY m r s b S) (hd : CD m (-1)) (hr : 0 ≤ r ∧ r ≤ 6) {k : Nat} (hk : k < s.ct) : m.chB r s k = !S k ∧ (S k = false → m.chL r s k = chunkL b k) := by
  have h8 := h.eight
  unfold DM.chB DM.chL
  rw [hd.kb (by omega)]
  cases hS : S k with
  | true => exact ⟨h.bad k hk hS, fun e => by cases e⟩
  | false =>
    obtain ⟨inc, h1, h2, h3⟩ := h.at_ k hk hS
    obtain ⟨b1, b2⟩ := frmY_back hr ⟨h1, h2⟩ h.ok (h.fits hk)
    rw [h3]
    exact ⟨b1, fun _ => b2⟩
theorem MendY.flip (h : MendY m r s b S) (hd : CD m (-1)) (hr : 0 ≤ r ∧ r ≤ 6) {k : Nat} (hk : k < s.ct) (hS : S k = false) (j : Nat) (hj : j ≤ 1) (bit : Nat) :
    ∃ m', m.flip ((sC (8 * s.ar + k) + j : Nat) : Int) (bit : Int) = (0, m') ∧ CD m' (-1) ∧ MendY m' r s b fun i => S i || decide (i = k) := by
  have h8 := h.eight
  obtain ⟨inc, h1, h2, h3⟩ := h.at_ k hk hS
  have hf := h.fits hk
  have hn : (chunkL b k).length ≤ 80 := by have := fitsC_iff.1 hf; omega
  have hlt := h.chunk_lt k
  obtain ⟨q1, q2, q3⟩ := frmY_sects (r := r) (inc := inc) (s := s) (k := k) hr ⟨h1, h2⟩ h.ok (by omega) hn hlt
  have hlen : (frmY r inc s k (chunkL b k)).length = 128 := by
    unfold frmY; rw [(sealL_len (sealY hr ⟨h1, h2⟩ h.ok (by omega) hn)).1]; rfl
  have hne : ¬ (m.hold (sC (8 * s.ar + k)) = [] ∨ m.hold (sC (8 * s.ar + k) + 1) = []) := by
    intro e
    have : m.kh (8 * s.ar + k) = [] := by unfold DM.kh pair2; rw [if_pos e]
    rw [this] at h3
    rw [← h3] at hlen
    cases hlen
  have happ : m.hold (sC (8 * s.ar + k)) ++ m.hold (sC (8 * s.ar + k) + 1) = frmY r inc s k (chunkL b k) := by
    rw [← h3]
    unfold DM.kh pair2
    rw [if_neg hne]
  have sect : ∀ t, t < 156 → m.hold t ≠ [] → (m.hold t).length = 64 := fun t ht hn => by
    unfold DM.hold at hn ⊢
    by_cases hl : m.lost.getD t false = true
    · rw [if_pos hl] at hn; exact absurd rfl hn
    · rw [if_neg hl]
      have := hd.b.ok.rests
      have hr := hd.b.size
      exact (this _ (by rw [List.getD_eq_getElem?_getD, List.getElem?_eq_getElem (show t < m.rest.length by unfold DM.size at hr; omega)]; exact List.getElem_mem _)).1
  have l0 := sect (sC (8 * s.ar + k)) (by unfold sC; omega) fun e => hne (.inl e)
  have l1 := sect (sC (8 * s.ar + k) + 1) (by unfold sC; omega) fun e => hne (.inr e)
  have far : ∀ i, i < s.ct → i ≠ k → sC (8 * s.ar + i) ≠ sC (8 * s.ar + k) + j ∧ sC (8 * s.ar + i) + 1 ≠ sC (8 * s.ar + k) + j := fun i _ hik => by unfold sC; omega
  obtain ⟨m', e, hd', hh⟩ := hd.flip (s := sC (8 * s.ar + k) + j) (by unfold sC; omega) (by
    have hj2 : j = 0 ∨ j = 1 := by omega
    rcases hj2 with rfl | rfl
    · exact fun e => hne (.inl e)
    · exact fun e => hne (.inr e)) bit
  have stay : ∀ i, i < s.ct → i ≠ k → m'.kh (8 * s.ar + i) = m.kh (8 * s.ar + i) := fun i hi hik =>
    kh_same (by rw [hh, if_neg (far i hi hik).1]) (by rw [hh, if_neg (far i hi hik).2])
  have hbad : okC r s k (m'.kh (8 * s.ar + k)) = false := by
    have hj2 : j = 0 ∨ j = 1 := by omega
    have hm512 : bit % 512 < 512 := Nat.mod_lt _ (by omega)
    have e2 : ∃ p, p < 1024 ∧ m'.kh (8 * s.ar + k) = flipB (frmY r inc s k (chunkL b k)) p := by
      unfold DM.kh
      rcases hj2 with rfl | rfl
      · simp only [Nat.add_zero] at hh
        rw [hh, hh, if_pos rfl, if_neg (by omega)]
        refine ⟨bit % 512, by omega, ?_⟩
        unfold pair2
        rw [if_neg (by
          rintro (e | e)
          · have := congrArg List.length e
            rw [flipB_length, l0] at this
            cases this
          · exact hne (.inr e)), flipB_left (by rw [l0]; omega), happ]
      · rw [hh, hh, if_neg (by omega), if_pos rfl]
        refine ⟨8 * 64 + bit % 512, by omega, ?_⟩
        unfold pair2
        rw [if_neg (by
          rintro (e | e)
          · exact hne (.inl e)
          · have := congrArg List.length e
            rw [flipB_length, l1] at this
            cases this), flipB_right (by rw [l1]; omega), happ, l0]
    obtain ⟨p, hp, hpe⟩ := e2
    rw [hpe]
    exact flip_badC hr ⟨h1, h2⟩ h.ok hf (by omega) hlt p hp
  refine ⟨m', e, hd', h.ok, h.ct, h.most, h.lt, fun i hi hSi => ?_, fun i hi hSi => ?_⟩
  · rw [Bool.or_eq_false_iff, decide_eq_false_iff_not] at hSi
    obtain ⟨inc', a1, a2, a3⟩ := h.at_ i hi hSi.1
    exact ⟨inc', a1, a2, (stay i hi hSi.2).trans a3⟩
  · by_cases hik : i = k
    · rw [hik]; exact hbad
    · rw [Bool.or_eq_true, decide_eq_true_iff] at hSi
      rw [stay i hi hik]
      exact h.bad i hi (hSi.resolve_right hik)
theorem MendY.mend (h : MendY m r s b S) (hd : CD m (-1)) (hr : 0 ≤ r ∧ r ≤ 6) (hc : 1 ≤ inc ∧ inc ≤ 1099511627776) {k : Nat} (hk : k < s.ct) (hS : S k = true) :
    ∃ m', m.mendY r inc s (k : Int) (chunkL b k) = (0, m') ∧ CD m' (-1) ∧ MendY m' r s b fun i => S i && !decide (i = k) := by
  have h8 := h.eight
  have hf := h.fits hk
  have hn : (chunkL b k).length ≤ 80 := by have := fitsC_iff.1 hf; omega
  have hlt := h.chunk_lt k
  have hch := (h.told hd hr hk).1
  rw [hS, Bool.not_true] at hch
  rcases hd.wrY (by omega) hr hc h.ok (k := k) (l := [chunkL b k]) (by simp; omega) (by simpa using ⟨hn, hlt⟩) with ⟨m3, q, e, _, hq, hd3, h3⟩ | ⟨hne, _⟩
  · obtain rfl := hq rfl
    have hm : m.mendY r inc s (k : Int) (chunkL b k) = (0, m3) := by
      unfold DM.mendY
      rw [if_pos ⟨by rw [fitsZ_nat]; exact hf, by rw [Int.toNat_natCast]; exact hch⟩, Int.toNat_natCast]
      exact e
    have far : ∀ i, i < s.ct → i ≠ k → m3.kh (8 * s.ar + i) = m.kh (8 * s.ar + i) := fun i hi hik => by
      have low : ∀ t, (t = sC (8 * s.ar + i) ∨ t = sC (8 * s.ar + i) + 1) → lastW (prsY r inc s k [chunkL b k]) t = none := fun t ht => lastW_none fun x hx e => by
        have := prsY_low [chunkL b k] k x hx
        simp only [List.length_cons, List.length_nil] at this
        unfold sC at *
        omega
      exact kh_same (by rw [h3, low _ (.inl rfl)]; rfl) (by rw [h3, low _ (.inr rfl)]; rfl)
    refine ⟨m3, hm, hd3, h.ok, h.ct, h.most, h.lt, fun i hi hSi => ?_, fun i hi hSi => ?_⟩
    · by_cases hik : i = k
      · subst hik
        refine ⟨inc, hc.1, hc.2, ?_⟩
        obtain ⟨g1, g2⟩ := prsY_get (r := r) (inc := inc) (s := s) [chunkL b i] i 0 (by simp)
        obtain ⟨_, _, sp⟩ := frmY_sects (r := r) (inc := inc) (s := s) (k := i) (c := chunkL b i) hr hc h.ok (by omega) hn hlt
        unfold DM.kh
        have g1' : lastW (prsY r inc s i [chunkL b i]) (sC (8 * s.ar + i)) = some ((frmY r inc s i (chunkL b i)).take 64) := g1
        have g2' : lastW (prsY r inc s i [chunkL b i]) (sC (8 * s.ar + i) + 1) = some ((frmY r inc s i (chunkL b i)).drop 64) := g2
        rw [h3, h3, g1', g2']
        exact sp
      · have hSi2 : S i = false := by simpa [hik] using hSi
        obtain ⟨inc', a1, a2, a3⟩ := h.at_ i hi hSi2
        exact ⟨inc', a1, a2, (far i hi hik).trans a3⟩
    · rw [Bool.and_eq_true, Bool.not_eq_true', decide_eq_false_iff_not] at hSi
      rw [far i hi hSi.2]
      exact h.bad i hi hSi.1
  · exact absurd rfl hne
theorem MendY.stays (h : MendY m r s b S) (hd : CD m (-1)) (hr : 0 ≤ r ∧ r ≤ 6) {k : Nat} (hk : k < s.ct) (hS : S k = false) (c : List Nat) : m.mendY r inc s (k : Int) c = (2, m) := by
  have hch := (h.told hd hr hk).1
  rw [hS, Bool.not_false] at hch
  unfold DM.mendY
  rw [if_neg]
  rintro ⟨_, e⟩
  rw [Int.toNat_natCast, hch] at e
  cases e
end
end
section
open Go Go.RowKit
section
variable {m m0 : DM} {r inc : Int} {s : ShM} {b : List Nat} {v : Nat}
theorem NInv.unE {x : Int × DM} {f : DM → Int × DM} (h : NInv x.2) (hf : ∀ m, NInv m → NInv (f m).2) : NInv (unE x f).2 := by
  unfold Proofs.YtgcinagkbdcgiaaGreatDoor.unE
  split
  · exact hf _ h
  · exact h
theorem NInv.wrsE_ {E : Int} (h : NInv m) (t : Int) {L : List Nat} (hb : ∀ x ∈ L, x < 256) : ∀ k, NInv (wrsE (E, m) t L k).2
  | 0 => h
  | k + 1 => by
    show NInv (Proofs.YtgcinagkbdcgiaaGreatDoor.unE (wrsE (E, m) t L k) _).2
    exact NInv.unE (NInv.wrsE_ h t hb k) fun m hm => hm.write _ fun x hx => hb x (List.mem_of_mem_drop (List.mem_of_mem_take hx))
theorem NInv.wrsY_ (hs : manOk s = true) : ∀ (l : List (List Nat)) (x : Int × DM) (k : Nat), (∀ c ∈ l, ∀ x ∈ c, x < 256) → NInv x.2 → NInv (wrsY r inc s x k l).2
  | [], _, _, _, h => h
  | c :: l, x, k, hl, h => by
    refine NInv.wrsY_ hs l _ (k + 1) (fun c hc => hl c (List.mem_cons_of_mem _ hc)) ?_
    obtain ⟨E, m⟩ := x
    exact NInv.wrsE_ h _ (sealL_lt (prZL_lt hs (hl c (List.mem_cons_self ..)))) 2
theorem NInv.wrY (h : NInv m) (hs : manOk s = true) {k : Nat} {l : List (List Nat)} (hl : ∀ c ∈ l, ∀ x ∈ c, x < 256) : NInv (m.wrY r inc s k l).2 :=
  NInv.unE (NInv.wrsY_ hs l (0, m) k hl h) fun _ hm => hm.flush
theorem NInv.heal (h : NInv m) (r : Int) : NInv (m.heal r 2).2 := by
  unfold DM.heal
  split
  · exact h
  · split
    · exact h
    · exact h.putC (sealL_lt (cellB_lt (cb_lt h.ok _ _) (cb_lt h.ok _ _))) _
theorem NInv.store (h : NInv m) (r c : Int) {body : List Nat} (hb : ∀ x ∈ body, x < 256) : NInv (m.store r 2 c body).2 := by
  unfold DM.store
  split
  · exact h
  · unfold DM.puts2
    have h1 := h.putC (L := sealC r 2 (firstP r 2 (m.cb 2 0) (m.cb 2 1)) (m.loadV r 2 + 1) c.toNat body) (sealL_lt hb) (firstS 2 (firstP r 2 (m.cb 2 0) (m.cb 2 1)))
    split
    · exact h1
    · exact h1.putC (sealL_lt hb) _
theorem NInv.putY (h : NInv m) (hs : manOk s = true) {l : List (List Nat)} (hl : ∀ c ∈ l, ∀ x ∈ c, x < 256) : NInv (m.putY r inc s l).2 := by
  have h1 := h.wrY (r := r) (inc := inc) hs (k := 0) hl
  unfold DM.putY
  split
  · exact h1
  · exact h1.store r inc (manL_lt s)
def DM.hurtC (m : DM) (s : ShM) (k : Nat) : Bool := anyIn m.hurt (firstS 5 ((8 * s.ar + k : Nat) : Int)) (wid 5)
def DM.hurtM (m : DM) (p : Int) : Bool := anyIn m.hurt (firstS 2 p) (wid 2)
theorem wh5 {p j : Nat} (h : p < 16) (hj : j ≤ 1) : wReg ((sC p + j : Nat) : Int) = 5 ∧ wPlc ((sC p + j : Nat) : Int) = (p : Int) := by
  unfold wReg wPlc sC
  rw [if_neg (by omega), if_neg (by omega), if_neg (by omega), if_neg (by omega), if_neg (by omega), if_pos (by omega), if_neg (by omega), if_neg (by omega), if_neg (by omega), if_neg (by omega), if_neg (by omega), if_pos (by omega)]
  exact ⟨rfl, by omega⟩
theorem wh2 {p : Nat} (h : p ≤ 1) : wReg ((secV 2 p : Nat) : Int) = 2 ∧ wPlc ((secV 2 p : Nat) : Int) = (p : Int) := by
  rcases (show p = 0 ∨ p = 1 by omega) with rfl | rfl <;> exact ⟨by decide +kernel, by decide +kernel⟩
theorem hurt_two (p : Nat) : anyIn m.hurt (sC p : Int) 2 = (m.hurt (sC p : Int) || m.hurt ((sC p + 1 : Nat) : Int)) := by
  rw [anyIn_succ, anyIn_succ, anyIn_zero, show ((sC p : Nat) : Int) + ((0 : Nat) : Int) = (sC p : Int) from by omega, show ((sC p : Nat) : Int) + ((1 : Nat) : Int) = ((sC p + 1 : Nat) : Int) from by omega]; rfl
theorem Flt.chunks (h : Flt m0 m) (h0 : CD m0 (-1)) (hn : NInv m0) (hk : MendY m0 r s b fun _ => false) (hs : m.seenB r = true) : MendY m r s b (m.hurtC s) := by
  have h8 := hk.eight
  have fst : ∀ k, k < s.ct → firstS 5 ((8 * s.ar + k : Nat) : Int) = (sC (8 * s.ar + k) : Nat) := fun k hk => first5 (by omega)
  refine ⟨hk.ok, hk.ct, hk.most, hk.lt, fun k hkc hS => ?_, fun k hkc hS => ?_⟩
  · unfold DM.hurtC at hS
    rw [fst k hkc, show wid 5 = 2 from rfl, hurt_two, Bool.or_eq_false_iff] at hS
    have hlt := sC_lt (p := 8 * s.ar + k) (by omega)
    obtain ⟨inc, a1, a2, a3⟩ := hk.at_ k hkc rfl
    exact ⟨inc, a1, a2, (kh_same (h.same h0 hn (by omega) hS.1) (h.same h0 hn hlt hS.2)).trans a3⟩
  · unfold DM.hurtC at hS
    rw [fst k hkc, show wid 5 = 2 from rfl, hurt_two, Bool.or_eq_true] at hS
    have hlt := sC_lt (p := 8 * s.ar + k) (by omega)
    have hb : m.badB r 5 ((8 * s.ar + k : Nat) : Int) = true := by
      rcases hS with hS | hS
      · have := seen_bad hs (show sC (8 * s.ar + k) < 156 by omega) hS
        obtain ⟨e1, e2⟩ := wh5 (p := 8 * s.ar + k) (j := 0) (by omega) (by omega)
        rw [Nat.add_zero] at e1 e2
        rw [e1, e2] at this
        exact this
      · have := seen_bad hs hlt hS
        obtain ⟨e1, e2⟩ := wh5 (p := 8 * s.ar + k) (j := 1) (by omega) (by omega)
        rw [e1, e2] at this
        exact this
    unfold DM.badB at hb
    rw [fst k hkc, show wid 5 = 2 from rfl, (rest_two m h.cd.b.size hlt).1, (rest_two m h.cd.b.size hlt).2, Bool.or_eq_true, Bool.or_eq_true, decide_eq_true_iff] at hb
    by_cases hl : m.lost.getD (sC (8 * s.ar + k)) false = true ∨ m.lost.getD (sC (8 * s.ar + k) + 1) false = true
    · have : m.kh (8 * s.ar + k) = [] := by
        unfold DM.kh pair2
        rcases hl with hl | hl
        · rw [if_pos (.inl (hold_lost hl))]
        · rw [if_pos (.inr (hold_lost hl))]
      rw [this]
      exact okC_nil r s k
    · have hb2 := hb.resolve_left hl
      have : m.kh (8 * s.ar + k) = m.hold (sC (8 * s.ar + k)) ++ m.hold (sC (8 * s.ar + k) + 1) := by
        unfold DM.kh pair2
        rw [if_neg]
        rintro (e | e)
        · exact hold_full h.cd.b.ok h.cd.b.size (by omega) (by simpa using fun x => hl (.inl x)) e
        · exact hold_full h.cd.b.ok h.cd.b.size hlt (by simpa using fun x => hl (.inr x)) e
      rw [this]
      unfold okC
      rw [hb2]
      exact decide_eq_false fun h => by have := h.1; omega
theorem Flt.copy (h : Flt m0 m) (h0 : CD m0 (-1)) (hn : NInv m0) (hs : m.seenB r = true) {p : Nat} (hp : p ≤ 1) : if m.hurtM (p : Int) = true then stM (m.hold (secV 2 p)) r 2 (p : Int) = 2 else m.hold (secV 2 p) = m0.hold (secV 2 p) := by
  have g2 : (2 : Int) = 1 ∨ (2 : Int) = 2 := .inr rfl
  have hlt := secV_lt g2 hp
  have hf := secV_first g2 hp
  have e1 : m.hurtM (p : Int) = m.hurt (secV 2 p : Int) := by
    unfold DM.hurtM
    rw [hf, show wid 2 = 1 from rfl, anyIn_succ, anyIn_zero, show ((secV 2 p : Nat) : Int) + ((0 : Nat) : Int) = (secV 2 p : Int) from by omega]; rfl
  rw [e1]
  cases hu : m.hurt (secV 2 p : Int) with
  | false => rw [if_neg (by decide)]; exact h.same h0 hn hlt hu
  | true =>
    rw [if_pos rfl]
    have hb := seen_bad hs hlt hu
    rw [(wh2 hp).1, (wh2 hp).2] at hb
    unfold DM.badB at hb
    rw [hf, show wid 2 = 1 from rfl, (rest_one m h.cd.b.size hlt).1, (rest_one m h.cd.b.size hlt).2, Bool.or_eq_true, decide_eq_true_iff] at hb
    rcases hb with hb | hb
    · rw [hold_lost hb]; exact nil_bad _ _ _
    · exact hb
theorem Flt.none_ (h : Flt m0 m) (h0 : CD m0 (-1)) (hn : NInv m0) (hs : m.seenB r = true) (ha : m.hurtM 0 = true) (hb : m.hurtM 1 = true) : m.loadE r 2 = 70 := by
  have g2 : (2 : Int) = 1 ∨ (2 : Int) = 2 := .inr rfl
  have c0 : if m.hurtM 0 = true then stM (m.hold (secV 2 0)) r 2 0 = 2 else m.hold (secV 2 0) = m0.hold (secV 2 0) := h.copy h0 hn hs (p := 0) (by omega)
  have c1 : if m.hurtM 1 = true then stM (m.hold (secV 2 1)) r 2 1 = 2 else m.hold (secV 2 1) = m0.hold (secV 2 1) := h.copy h0 hn hs (p := 1) (by omega)
  rw [if_pos ha] at c0
  rw [if_pos hb] at c1
  unfold DM.loadE
  rw [if_neg (by rw [h.cd.up]; simp), h.cd.cb0 g2, h.cd.cb1 g2]
  have hat : atC r 2 (m.hold (secV 2 0)) (m.hold (secV 2 1)) = -1 := atmU (by omega) (by omega)
  unfold cellE blankC pickP
  rw [hat, c0, c1]
  rfl
theorem Flt.some_ {B : List Nat} (h : Flt m0 m) (h0 : CD m0 (-1)) (hn : NInv m0) (hs : m.seenB r = true) (hv : 1 ≤ v) (ht : TwoU r m0 2 v B) (hab : ¬ (m.hurtM 0 = true ∧ m.hurtM 1 = true)) : SomeU r m 2 v B := by
  have c0 := h.copy h0 hn hs (p := 0) (by omega)
  have c1 := h.copy h0 hn hs (p := 1) (by omega)
  have c0 : if m.hurtM 0 = true then stM (m.hold (secV 2 0)) r 2 0 = 2 else m.hold (secV 2 0) = m0.hold (secV 2 0) := c0
  have c1 : if m.hurtM 1 = true then stM (m.hold (secV 2 1)) r 2 1 = 2 else m.hold (secV 2 1) = m0.hold (secV 2 1) := c1
  rcases ht with ⟨hz, _⟩ | ⟨_, c, d, k0, k1⟩
  · omega
  · by_cases ha : m.hurtM 0 = true
    · have hb : ¬ m.hurtM 1 = true := fun e => hab ⟨ha, e⟩
      rw [if_pos ha] at c0
      rw [if_neg hb] at c1
      exact .inr (.inr ⟨hv, d, by rw [c1]; exact k1, by rw [no_copy (by omega)]; omega⟩)
    · rw [if_neg ha] at c0
      refine .inr (.inl ⟨hv, c, by rw [c0]; exact k0, ?_⟩)
      by_cases hb : m.hurtM 1 = true
      · rw [if_pos hb] at c1
        rw [no_copy (by omega)]
        exact ⟨by omega, fun e => by omega⟩
      · rw [if_neg hb] at c1
        rw [c1, k1.v3, k1.bd]
        exact ⟨Nat.le_refl _, fun _ => rfl⟩
theorem SomeU.openS {S : Nat → Bool} (h : SomeU r m 2 v (ManY v s)) (hd : CD m (-1)) (hh : MendY m r s b S) (hz : v = 0 ↔ s.ix = 0) : m.ldY r = 0 ∧ m.shY r = s ∧ ∃ m', m.heal r 2 = (0, m') ∧ CD m' (-1) ∧ MendY m' r s b S := by
  obtain ⟨h1, h2⟩ := (hd.ldU (.inr rfl) h.ldd).shelf (.inr hh.ok) hz
  refine ⟨h1, h2, ?_⟩
  have hT := Tch.heal hd r
  rcases h.heal hd (.inr rfl) with ⟨e, _⟩ | ⟨t, L, ht, hL, e, hk⟩
  · exact ⟨m, e, hd, hh⟩
  · obtain ⟨m', e2, c2, g2⟩ := hd.put2 (.inl rfl) ht hL
    rw [e, e2] at hT
    have h8 := hh.eight
    have same : ∀ k, k < s.ct → m'.kh (8 * s.ar + k) = m.kh (8 * s.ar + k) := fun k hk => by
      have hc : ∀ j, ¬ cellT (sC (8 * s.ar + k) + j) := fun j hc => by
        have h0 : secV 2 0 = 2 := rfl
        have h1 : secV 2 1 = 3 := rfl
        unfold cellT sC at hc
        omega
      exact kh_same (hT.hold _ (hc 0)) (hT.hold _ (hc 1))
    exact ⟨m', e.trans e2, c2, hh.ok, hh.ct, hh.most, hh.lt, fun k hk hS => by rw [same k hk]; exact hh.at_ k hk hS, fun k hk hS => by rw [same k hk]; exact hh.bad k hk hS⟩
theorem MendY.hurts {S : Nat → Bool} (hh : MendY m r s b S) (hd : CD m (-1)) (hr : 0 ≤ r ∧ r ≤ 6) : m.hurtK r s s.ct = (List.range s.ct).filter S := by
  unfold DM.hurtK
  exact List.filter_congr fun k hk => by rw [(hh.told hd hr (List.mem_range.1 hk)).1, Bool.not_not]
theorem MendY.alls {S : Nat → Bool} (hh : MendY m r s b S) (hd : CD m (-1)) (hr : 0 ≤ r ∧ r ≤ 6) : (((List.range s.ct).filter S = []) → m.allE r s = 0 ∧ m.allO r s = b) ∧ (¬ ((List.range s.ct).filter S = []) → m.allE r s = 130 ∧ m.allO r s = []) := by
  have e := hh.hurts hd hr
  constructor
  · intro h
    refine (hh.held fun k hk => ?_).all_ hd hr
    have := List.filter_eq_nil_iff.1 h k (List.mem_range.2 hk)
    simpa using this
  · intro h
    have e1 : m.allE r s = 130 := by
      unfold DM.allE
      rw [if_neg (by rw [hd.up]; simp), e, if_neg h]
    exact ⟨e1, by unfold DM.allO; rw [e1, if_neg (by omega)]⟩
end
end
section
open Go Go.RowKit
structure Keep (w : World) (F : Nat → Prop) (g : Nat) (o : Obj) : Prop where
  row : w.heap[g]? = some o
  off : ¬ F g
section
variable {w w' : World} {F : Nat → Prop} {g d : Nat} {o : Obj} {m : DM}
theorem Keep.lt (h : Keep w F g o) : g < w.heap.size := (Array.getElem?_eq_some_iff.1 h.row).1
theorem Keep.ext (h : Keep w F g o) (k : Ext w w') : Keep w' F g o := ⟨(k.block g h.lt).trans h.row, h.off⟩
theorem Keep.step (h : Keep w F g o) (k : Mod F w w') : Keep w' (grow F w w') g o := ⟨heap_mod h.row k h.off, fun hf => hf.elim h.off fun h2 => absurd h2.1 (Nat.not_le.2 h.lt)⟩
theorem Keep.mod {G : Nat → Prop} (h : Keep w F g o) (k : Mod G w w') (hg : ¬ G g) : Keep w' F g o := ⟨heap_mod h.row k hg, h.off⟩
end
end
section
open Go Go.RowKit
structure Kept (F F' : Nat → Prop) (w w' : World) : Prop where
  mod : Mod F w w'
  new : ∀ k, F' k → F k ∨ w.heap.size ≤ k
theorem Kept.refl (F : Nat → Prop) (w : World) : Kept F F w w := ⟨Mod.refl F w, fun _ h => .inl h⟩
theorem Kept.of_ext {F : Nat → Prop} {w w' : World} (h : Ext w w') : Kept F F w w' := ⟨Mod.of_ext h, fun _ h => .inl h⟩
theorem Kept.trans {F G H : Nat → Prop} {a b c : World} (h : Kept F G a b) (k : Kept G H b c) : Kept F H a c :=
  ⟨h.mod.trans k.mod h.new, fun i hi => (k.new i hi).elim (h.new i) fun h1 => .inr (Nat.le_trans h.mod.size h1)⟩
theorem Keep.kept {F F' : Nat → Prop} {w w' : World} {b : Nat} {o : Obj} (h : Keep w F b o) (k : Kept F F' w w') : Keep w' F' b o :=
  ⟨heap_mod h.row k.mod h.off, fun hf => (k.new b hf).elim h.off fun h1 => absurd h1 (Nat.not_le.2 h.lt)⟩
theorem Ls.more {α : Type} {cells : α → List Value} {N : Nat} {w : World} {B B' : Nat} {A : Option Addr} {n c : Nat} {l : List α} (h : Ls cells N w B A n c l) (hB : B ≤ B') : Ls cells N w B' A n c l :=
  ⟨h.len, h.cap, h.most, fun hn => by
    obtain ⟨g, o, e, hg, hc⟩ := h.rd hn
    exact ⟨g, o, e, by omega, hc⟩, h.nil_⟩
section
variable {w : World} {F : Nat → Prop}
theorem Keep.set {b : Nat} {cs : Array Value} {t : TypeId} (h : Keep w F b (.cells cs t (0, 0))) (i : Nat) (v : Value) : Keep (w.setCell ⟨b, i, none⟩ v) F b (.cells (cs.setIfInBounds i v) t (0, 0)) :=
  ⟨row_set i h.row v rfl, h.off⟩
end
end
end Go.Proofs.YtgcinagkbdcgiaaGreatDoor
