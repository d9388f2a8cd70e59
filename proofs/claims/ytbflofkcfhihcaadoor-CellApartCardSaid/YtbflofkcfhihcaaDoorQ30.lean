/-
  The cells' calls at a disk made since a world; the statements' own loads, stored, great.
  Faults at a disk with cells; the contract of the cells' statements' own first look at the chapter's example.
  Plain facts for CellEither and CellHealed: a cell behind a power that goes amid a Store, and any crash; what Heal leaves.
-/
import Derived.Test.YtbflofkcfhihcaaDoorQ17
import Derived.Test.YtbflofkcfhihcaaDoorQ26
import Derived.Test.YtbflofkcfhihcaaDoorQ28
import Derived.Test.YtbflofkcfhihcaaDoorQ29
namespace Go.Proofs.YtbflofkcfhihcaaDoor
open Go Go.RowKit

theorem known0 {m : DM} {g : Int} (hs : m.size = 156) (hg : g = 1 ∨ g = 2) : knownC m.size 0 g = 0 := by
  unfold knownC
  rw [hs, if_neg (by omega), if_neg (by omega)]
section
variable {w0 w : World} {d : Nat} {F : Nat → Prop} {m : DM}
theorem DK.st (h : DK w0 w d F m) {m' : DM} {w' : World} (k : Step d F w m' w') : DK w0 w' d (grow F w w') m' := h.step k.1 k.2
theorem DK.laid (h : DK w0 w d F m) (hL : LaidF w0) : ∀ V, Mod F w V → LaidF V := fun _ hm => hL.ext (Below.mod h.bel hm h.bel.size h.low)
theorem Load_dk (h : DK w0 w d F m) (hL : LaidF w0) (r g : Int) (hk : knownC m.size r g = 0) (hfew : m.waits.length ≤ 1000000) : Calls Tryd.prog 9 #[.pointer (some ⟨d, 0, none⟩), .int .i64 r, .int .i64 g] w fun e w' => ∃ A N, e = .returned (.tuple #[.int .i64 (m.loadV r g : Nat), .slice A N N, .int .i64 (m.loadE r g)]) ∧ By w' A N N (m.loadB r g) ∧ Ext w w' :=
  Load_of h.disk (hL.ext h.bel) r g hfew hk
theorem Heal_dk (h : DK w0 w d F m) (hL : LaidF w0) (r g : Int) (hk : knownC m.size r g = 0) (hfew : m.waits.length + 1 ≤ 1000000) : Calls Tryd.prog 10 #[.pointer (some ⟨d, 0, none⟩), .int .i64 r, .int .i64 g] w fun e w' => e = .returned (.int .i64 (m.heal r g).1) ∧ DK w0 w' d (grow F w w') (m.heal r g).2 :=
  (Heal_of h.disk (hL.ext h.bel) r g hfew hk).mono fun _ _ ⟨h1, h2⟩ => ⟨h1, h.st h2⟩
theorem Store_dk (h : DK w0 w d F m) (hL : LaidF w0) (r g c : Int) (A : Option Addr) (n cp : Nat) (body : List Nat) (hb : By w A n cp body) (ho : ∀ g o, A = some ⟨g, o, none⟩ → 0 < n → ¬ F g) (hk : knownC m.size r g = 0) (hfew : m.waits.length + 2 ≤ 1000000) : Calls Tryd.prog 11 #[.pointer (some ⟨d, 0, none⟩), .int .i64 r, .int .i64 g, .int .i64 c, .slice A n cp] w fun e w' => e = .returned (.int .i64 (m.store r g c body).1) ∧ DK w0 w' d (grow F w w') (m.store r g c body).2 :=
  (Store_of h.disk (hL.ext h.bel) (h.laid hL) r g c A n cp body hb ho hfew hk).mono fun _ _ ⟨h1, h2⟩ => ⟨h1, h.st h2⟩
/-- Bytes that came in lie in none of the disk's blocks. -/
theorem DK.offB (h : DK w0 w d F m) {A : Option Addr} {n c : Nat} {l : List Nat} (hb : Bs w0 w0.heap.size A n c l) : ∀ g o, A = some ⟨g, o, none⟩ → 0 < n → ¬ F g := fun g o hA hn hf => by
  obtain ⟨g2, o2, e2, h2, _⟩ := hb.rd.2 (by rw [hb.len]; exact hn)
  rw [hA] at e2
  injection e2 with e2
  injection e2 with e3 _
  have h1 := h.low _ hf
  rw [e3] at h1
  exact absurd h2 (by show ¬ g2 < w0.heap.size; omega)
theorem DK.byIn (h : DK w0 w d F m) {A : Option Addr} {n c : Nat} {l : List Nat} (hb : Bs w0 w0.heap.size A n c l) : By w A n c l := (hb.below h.bel).more h.bel.size

theorem loads_yes (h : DK w0 w d F m) (hL : LaidF w0) (g v : Int) (A : Option Addr) (n cp : Nat) (body : List Nat) (hb : By w A n cp body) (hs : m.size = 156) (hg : g = 1 ∨ g = 2) (hfew : m.waits.length ≤ 1000000) (k : Nat) (hl : Ld m g k body) (hv : v = (k : Int)) :
    Calls Tryd.prog 18 #[.pointer (some ⟨d, 0, none⟩), .int .i64 g, .int .i64 v, .slice A n cp] w fun e w' => e = .returned (.bool true) ∧ DK w0 w' d F m := by
  have hld := Load_dk h hL 0 g (known0 hs hg) hfew
  rw [hl.e, hl.v, hl.b] at hld
  subst hv
  have HLD := Lib.hid hld
  have HB := Lib.hid hb
  have H := Lib.hid h
  clear h hL hb hs hg hfew hl hld
  go_enter Tryd.func18, Tryd.ntmps18
  go_wp2_with fail
  refine HLD.out.mono ?_
  rintro e w1 ⟨A1, N1, rfl, hb1, hx⟩
  have HB1 := Lib.hid hb1
  have HB := Lib.hid (HB.out.ext hx)
  have HD := Lib.hid (H.out.ext hx)
  clear hb1 hx
  go_wp2_with fail
  refine (same_by A1 A body body _ _ _ _ _ HB1.out HB.out).mono ?_
  rw [decide_eq_true (rfl : body = body)]
  rintro e w2 ⟨rfl, hx⟩
  have HD := Lib.hid (HD.out.ext hx)
  clear hx
  go_wp2_with fail
  go_ret
  exact ⟨rfl, HD.out⟩
theorem loads_no (h : DK w0 w d F m) (hL : LaidF w0) (g v : Int) (A : Option Addr) (n cp : Nat) (hs : m.size = 156) (hg : g = 1 ∨ g = 2) (hfew : m.waits.length ≤ 1000000) (k : Nat) (b : List Nat) (hl : Ld m g k b) (hv : v ≠ (k : Int)) :
    Calls Tryd.prog 18 #[.pointer (some ⟨d, 0, none⟩), .int .i64 g, .int .i64 v, .slice A n cp] w fun e w' => e = .returned (.bool false) ∧ DK w0 w' d F m := by
  have hld := Load_dk h hL 0 g (known0 hs hg) hfew
  rw [hl.e, hl.v, hl.b] at hld
  have hne : ((k : Int) == v) = false := by rw [beq_eq_false_iff_ne]; exact fun e => hv e.symm
  have HLD := Lib.hid hld
  have H := Lib.hid h
  clear h hL hs hg hfew hl hld hv
  go_enter Tryd.func18, Tryd.ntmps18
  go_wp2_with fail
  refine HLD.out.mono ?_
  rintro e w1 ⟨A1, N1, rfl, hb1, hx⟩
  have HD := Lib.hid (H.out.ext hx)
  clear hb1 hx
  go_wp2_with fail
  go_ret
  exact ⟨rfl, HD.out⟩
end
/-- What great answers. -/
def GreatL (n : Nat) (l : List Lst) (w : World) (e : Ending) (w' : World) : Prop := ∃ b : Bool, e = .returned (.bool b) ∧ w = w' ∧ (b = false → n ≤ 20 ∧ ∀ a ∈ l, a.n ≤ 43)
set_option maxRecDepth 100000 in
set_option maxHeartbeats 800000 in
theorem great7_of {w : World} {B : Nat} (A : Option Addr) (n c : Nat) (l : List Lst) (h : Lsts w B A n c l) : Calls Tryd.prog 13 #[.slice A n c] w (GreatL n l w) := by
  have HA := Lib.hid h
  have hn := Nat.zero_le n
  clear h
  go_enter Tryd.func13, Tryd.ntmps13
  by_cases hn20 : 20 < n
  · go_wp2_with fail
    go_ret
    exact ⟨true, rfl, rfl, fun h => by cases h⟩
  go_wp2_with fail
  go_loopw [3] (fun i wr => ∃ k : Nat, k ≤ n ∧ i = .int .i64 k ∧ wr = w ∧ Hid (∀ a ∈ l.take k, a.n ≤ 43)) (fun i _ => n - (intOf i).toNat)
  case atStart => exact ⟨0, Nat.zero_le _, rfl, rfl, Lib.hid fun a ha => by simp at ha⟩
  case round =>
    obtain ⟨k, hkn, rfl, rfl, HT⟩ := hrel
    by_cases hlt : k < n
    · obtain ⟨g, o, a, rfl, hg, ha, hok, h0⟩ := HA.out.at_ hlt
      have HAL := Lib.hid ha
      by_cases hb : 43 < a.n
      · clear ha hok
        go_wp2_with fail
        go_ret
        exact ⟨true, rfl, rfl, fun h => by cases h⟩
      · clear ha hok
        go_wp2_with fail
        go_roundw
        case rel => exact ⟨k + 1, by omega, by go_num, by first | rfl | trivial, Lib.hid fun b hb' => by
          rw [List.take_add_one, HAL.out] at hb'
          rcases List.mem_append.1 hb' with h | h
          · exact HT.out b h
          · simp only [Option.toList_some, List.mem_singleton] at h
            subst h
            omega⟩
        case measure => simp [intOf]; omega
    · go_wp2_with fail
      go_ret
      refine ⟨false, rfl, rfl, fun _ => ⟨by omega, fun a ha => HT.out a ?_⟩⟩
      rw [List.take_of_length_le (by have := HA.out.len; omega)]
      exact ha
/-- The body that was stored last, of k. -/
def bodyAt (l : List Lst) (k : Nat) : List Nat := if k = 0 then [] else (l.getD (k - 1) default).l
set_option maxRecDepth 100000 in
set_option maxHeartbeats 1600000 in
theorem stored_of {w0 w : World} {d : Nat} {F : Nat → Prop} {m : DM} (h : DK w0 w d F m) (hL : LaidF w0) (hd : CD m (-1)) (g : Int) (hg : g = 1 ∨ g = 2) (ht : Two m g 0 []) (A : Option Addr) (n c : Nat) (l : List Lst) (hl : Lsts w0 w0.heap.size A n c l) (hn : n ≤ 20) (hall : ∀ a ∈ l, a.n ≤ 43) :
    Calls Tryd.prog 14 #[.pointer (some ⟨d, 0, none⟩), .int .i64 g, .slice A n c] w fun e w' => e = .returned (.bool true) ∧ ∃ F' m', DK w0 w' d F' m' ∧ CD m' (-1) ∧ Two m' g n (bodyAt l n) ∧ ∀ t, t ≠ secV g 0 → t ≠ secV g 1 → m'.hold t = m.hold t := by
  have H := Lib.hid h
  have HL := Lib.hid hL
  have HD := Lib.hid hd
  have HG := Lib.hid hg
  have HT := Lib.hid ht
  have HA := Lib.hid hl
  have HALL := Lib.hid hall
  have hn0 := Nat.zero_le n
  clear h hL hd hg ht hl hall
  go_enter Tryd.func14, Tryd.ntmps14
  go_wp2_with fail
  go_loopw [7] (fun i wr => ∃ (k : Nat) (F' : Nat → Prop) (m' : DM), k ≤ n ∧ i = .int .i64 k ∧ Hid (DK w0 wr d F' m') ∧ Hid (CD m' (-1)) ∧ Hid (Two m' g k (bodyAt l k)) ∧ Hid (∀ t, t ≠ secV g 0 → t ≠ secV g 1 → m'.hold t = m.hold t)) (fun i _ => n - (intOf i).toNat)
  case atStart => exact ⟨0, F, m, Nat.zero_le _, rfl, H, HD, HT, Lib.hid fun _ _ _ => rfl⟩
  case round =>
    obtain ⟨k, F', m', hkn, rfl, HK, HDk, HTk, HO⟩ := hrel
    by_cases hlt : k < n
    · obtain ⟨b, o, a, rfl, hbw, ha, hok, h0⟩ := HA.out.at_ hlt
      have c0 := (Below.cell HK.out.bel (p := ⟨b, o + k, none⟩) hbw).trans h0
      have han : a.n ≤ 43 := HALL.out a (List.mem_of_getElem? ha)
      have hbl : a.l.length ≤ 43 := by rw [hok.len]; exact han
      obtain ⟨m2, e2, hd2, ht2, ho2⟩ := HTk.out.stored HDk.out HG.out (by omega) (c := k + 1) (by omega) hbl hok.rd.lt
      have hb2 : bodyAt l (k + 1) = a.l := by unfold bodyAt; rw [if_neg (by omega), Nat.add_sub_cancel, List.getD_eq_getElem?_getD, ha]; rfl
      have hst := Store_dk HK.out HL.out 0 g ((k + 1 : Nat) : Int) a.A a.n a.c a.l (HK.out.byIn hok) (HK.out.offB hok) (known0 HDk.out.b.size HG.out) (by rw [HDk.out.b.waits]; simp)
      rw [e2, show ((k + 1 : Nat) : Int) = 1 + (k : Int) by omega] at hst
      have HST := Lib.hid hst
      have HD2 := Lib.hid hd2
      have HT2 := Lib.hid ht2
      have HBL := Lib.hid hb2
      have HOK := Lib.hid hok
      have HC0 := Lib.hid h0
      have HBW := Lib.hid hbw
      have HO2 : Hid (∀ t, t ≠ secV g 0 → t ≠ secV g 1 → m2.hold t = m.hold t) := Lib.hid fun t h1 h2 => (ho2 t h1 h2).trans (HO.out t h1 h2)
      clear hok ha han hbl e2 hd2 ht2 ho2 hb2 hst h0 hbw
      go_wp2_with fail
      refine HST.out.mono ?_
      rintro e w1 ⟨rfl, hk1⟩
      have HK1 := Lib.hid hk1
      have c0 := (Below.cell hk1.bel (p := ⟨b, o + k, none⟩) HBW.out).trans HC0.out
      clear hk1
      go_wp2_with fail
      refine (loads_yes HK1.out HL.out g _ a.A a.n a.c a.l (HK1.out.byIn HOK.out) HD2.out.b.size HG.out (by rw [HD2.out.b.waits]; simp) (k + 1) (HD2.out.ld HG.out HT2.out.ldd) (by omega)).mono ?_
      rintro e w2 ⟨rfl, hk2⟩
      have HK2 := Lib.hid hk2
      clear hk2 c0
      go_wp2_with fail
      go_roundw
      case rel => exact ⟨k + 1, _, m2, by omega, by go_num, HK2, HD2, Lib.hid (by rw [HBL.out]; exact HT2.out), HO2⟩
      case measure => simp [intOf]; omega
    · obtain rfl : k = n := by omega
      go_wp2_with fail
      go_ret
      exact ⟨rfl, F', m', HK.out, HDk.out, HTk.out, HO.out⟩
end Go.Proofs.YtbflofkcfhihcaaDoor

namespace Go.Proofs.YtbflofkcfhihcaaDoor
open Go Go.RowKit

section
variable {m : DM} {pw : Int} {s : Nat}
theorem CD.lose (h : CD m pw) (hs : s < 156) : ∃ m', m.lose (s : Int) = (0, m') ∧ CD m' pw ∧ ∀ t, m'.hold t = if t = s then [] else m.hold t := by
  have hok := DM.lose_ok h.b.ok (s : Int)
  have e : m.lose (s : Int) = (0, { m with lost := m.lost.set s true }) := by
    unfold DM.lose
    rw [if_neg (by rw [h.has hs]; simp), Int.toNat_natCast]
  rw [e] at hok
  refine ⟨_, e, ⟨⟨hok, h.b.size, h.b.waits, h.b.down⟩, h.dead, h.power⟩, fun t => ?_⟩
  have hl : s < m.lost.length := by rw [h.b.ok.lost, h.b.size]; exact hs
  show (if (m.lost.set s true).getD t false = true then [] else m.rest.getD t []) = _
  rw [getD_set hl]
  by_cases hst : s = t
  · rw [if_pos hst, if_pos rfl, if_pos hst.symm]
  · rw [if_neg hst, if_neg (show ¬ t = s from fun e => hst e.symm)]
    rfl
theorem CD.flip (h : CD m pw) (hs : s < 156) (hne : m.hold s ≠ []) (bit : Nat) : ∃ m', m.flip (s : Int) (bit : Int) = (0, m') ∧ CD m' pw ∧ ∀ t, m'.hold t = if t = s then flipB (m.hold s) (bit % 512) else m.hold t := by
  have hok := DM.flip_ok h.b.ok (s : Int) (bit : Int)
  have e : m.flip (s : Int) (bit : Int) = (0, { m with rest := m.rest.set s (flipB (m.rest.getD s []) (bit % 512)) }) := by
    unfold DM.flip
    rw [if_neg (by rw [h.has hs]; simp), Int.toNat_natCast, Int.toNat_natCast]
  rw [e] at hok
  have hnl : m.lost.getD s false = false := by
    unfold DM.hold at hne
    by_cases hl : m.lost.getD s false = true
    · rw [if_pos hl] at hne; exact absurd rfl hne
    · simpa using hl
  have hh : m.hold s = m.rest.getD s [] := by unfold DM.hold; rw [if_neg (by rw [hnl]; simp)]
  refine ⟨_, e, ⟨⟨hok, ?_, h.b.waits, h.b.down⟩, h.dead, h.power⟩, fun t => ?_⟩
  · show (m.rest.set s _).length = 156
    rw [List.length_set]
    exact h.b.size
  · have hl : s < m.rest.length := by have := h.b.size; unfold DM.size at this; omega
    show (if m.lost.getD t false = true then [] else (m.rest.set s _).getD t []) = _
    rw [getD_set hl]
    by_cases hst : s = t
    · subst hst
      rw [if_neg (by rw [hnl]; simp), if_pos rfl, if_pos rfl, hh]
    · rw [if_neg hst, if_neg (show ¬ t = s from fun e => hst e.symm)]
      rfl
end
theorem lose_dk {w0 w : World} {d : Nat} {F : Nat → Prop} {m m' : DM} (h : DK w0 w d F m) (s E : Int) (hl : m.lose s = (E, m')) : Calls Tryd.prog 20 #[.pointer (some ⟨d, 0, none⟩), .int .i64 s] w fun e w' => e = .returned (.int .i64 E) ∧ DK w0 w' d (grow F w w') m' := by
  have := lose_pd h.disk s
  rw [hl] at this
  exact this.mono fun e w' hh => ⟨hh.1, h.step hh.2.1 hh.2.2⟩
theorem waits_dk {w0 w : World} {d : Nat} {F : Nat → Prop} {m : DM} (h : DK w0 w d F m) (hw : m.waits = []) : Calls Tryd.prog 19 #[.pointer (some ⟨d, 0, none⟩)] w fun e w' => e = .returned (.int .i64 0) ∧ w = w' := by
  have := waits_pd h.disk
  rw [hw] at this
  exact this
theorem new_dk {w0 w : World} (hx : Ext w0 w) : Calls Tryd.prog 8 #[.int .i64 156] w fun e w' => ∃ d F, e = .returned (.tuple #[.pointer (some ⟨d, 0, none⟩), .int .i64 0]) ∧ DK w0 w' d F (DM.new 156) :=
  (new_pdk 156 w (by omega) (by omega)).mono fun e w' ⟨d, h1, h2, h3⟩ => ⟨d, _, h1, h2, fun k hk => Nat.le_trans hx.size hk.1, hx.trans h3⟩
theorem off_newC {w0 w : World} {d : Nat} {F : Nat → Prop} {m : DM} (h : DK w0 w d F m) {n : Nat} : ∀ g o, (some ⟨w.heap.size, 0, none⟩ : Option Addr) = some ⟨g, o, none⟩ → 0 < n → ¬ F g := fun g o e _ hf => by
  injection e with e
  injection e with e _
  have := h.disk.lt g hf
  omega

set_option maxRecDepth 100000 in
set_option maxHeartbeats 1600000 in
theorem cawake_any (w0 w : World) (hx : Ext w0 w) (hL : LaidF w0) : Calls Tryd.prog 12 #[] w fun e w' => e = .returned (.bool true) ∧ Ext w0 w' := by
  obtain ⟨m1, e1, d1, t1, o1⟩ := (new_two (g := 1) (.inl rfl)).stored CD.new (.inl rfl) (by omega) (c := 1) (by omega) (body := [7]) (by decide) (by decide)
  have l0 := CD.new.ld (g := 1) (.inl rfl) (new_two (g := 1) (.inl rfl)).ldd
  have l1 := d1.ld (g := 1) (.inl rfl) t1.ldd
  obtain ⟨m2, e2, d2, h2⟩ := d1.lose (s := 0) (by omega)
  obtain ⟨m3, e3, d3, h3⟩ := d2.lose (s := 1) (by omega)
  have s0 : secV 1 0 = 0 := rfl
  have s1 : secV 1 1 = 1 := rfl
  have l2 : Ld m2 1 1 [7] := by
    refine d2.ld (.inl rfl) ?_
    rcases t1 with ⟨hv, _⟩ | ⟨_, c, c2, _, hy⟩
    · cases hv
    · refine ldd1 (v := 1) (c := c2) ?_ (.inr ?_)
      · rw [s1, h2, if_neg (by omega)]; exact hy
      · rw [s0, h2, if_pos rfl, nil_bad]; omega
  have l3 : m3.loadE 0 1 = 70 := by
    rw [d3.loadE (.inl rfl)]
    refine ldd_bad ?_ ?_
    · rw [s0, h3, if_neg (by omega), h2, if_pos rfl]; exact nil_bad _ _ _
    · rw [s1, h3, if_pos rfl]; exact nil_bad _ _ _
  have l4 : Ld m3 2 0 [] := by
    refine d3.ld (.inr rfl) (ldd_blank ?_ ?_)
    · rw [show secV 2 0 = 2 from rfl, h3, if_neg (by omega), h2, if_neg (by omega), o1 2 (by rw [s0]; omega) (by rw [s1]; omega), new_hold (by omega)]; exact z64_blank _ _ _
    · rw [show secV 2 1 = 3 from rfl, h3, if_neg (by omega), h2, if_neg (by omega), o1 3 (by rw [s0]; omega) (by rw [s1]; omega), new_hold (by omega)]; exact z64_blank _ _ _
  have lv : m3.loadV 0 1 = 0 := by unfold DM.loadV; rw [if_neg (by rw [l3]; omega)]
  have lb : m3.loadB 0 1 = [] := by unfold DM.loadB; rw [if_neg (by rw [l3]; omega)]
  have k3 : knownC m3.size 0 3 = 2 := by rw [d3.b.size]; rfl
  have HL := Lib.hid hL
  have HX := Lib.hid hx
  have P0 := Lib.hid l0
  have P1 := Lib.hid (And.intro e1 (And.intro d1 l1))
  have P2 := Lib.hid (And.intro e2 (And.intro d2 l2))
  have P3 := Lib.hid (And.intro e3 (And.intro d3 (And.intro l3 (And.intro lv (And.intro lb (And.intro k3 l4))))))
  clear hL hx l0 e1 d1 l1 e2 d2 l2 e3 d3 l3 l4 lv lb k3 t1 o1 h2 h3 s0 s1
  go_enter Tryd.func12, Tryd.ntmps12
  go_wp2_with fail
  refine (new_dk HX.out).mono ?_
  rintro e w1 ⟨d, F1, rfl, hk⟩
  have HK := Lib.hid hk
  clear hk
  go_wp2_with fail
  refine (loads_yes HK.out HL.out 1 0 none 0 0 [] (By.nil_ _) (by rfl) (.inl rfl) (by decide) 0 P0.out rfl).mono ?_
  rintro e w2 ⟨rfl, hk⟩
  have HK := Lib.hid hk
  clear hk
  go_wp2_with fail
  have hst := Store_dk (HK.out.ext ((Ext.refl w2).alloc (.cells #[.int .u8 7] 5))) HL.out 0 1 1 (some ⟨w2.heap.size, 0, none⟩) 1 1 [7] (By.lit w2 [7] 5 (by decide) (by decide) _ rfl) (off_newC HK.out) (by rfl) (by decide)
  rw [show ((DM.new 156).store 0 1 1 [7]) = (0, m1) from P1.out.1] at hst
  refine hst.mono ?_
  rintro e w3 ⟨rfl, hk⟩
  have HK := Lib.hid hk
  clear hk hst
  go_wp2_with fail
  refine (loads_yes (HK.out.ext ((Ext.refl w3).alloc (.cells #[.int .u8 7] 5))) HL.out 1 1 _ 1 1 [7] (By.lit w3 [7] 5 (by decide) (by decide) _ rfl) P1.out.2.1.b.size (.inl rfl) (by rw [P1.out.2.1.b.waits]; simp) 1 P1.out.2.2 rfl).mono ?_
  rintro e w4 ⟨rfl, hk⟩
  have HK := Lib.hid hk
  clear hk
  go_wp2_with fail
  refine (waits_dk HK.out P1.out.2.1.b.waits).mono ?_
  rintro e w5 ⟨rfl, rfl⟩
  go_wp2_with fail
  refine (lose_dk HK.out 0 0 P2.out.1).mono ?_
  rintro e w6 ⟨rfl, hk⟩
  have HK := Lib.hid hk
  clear hk
  go_wp2_with fail
  refine (loads_yes (HK.out.ext ((Ext.refl w6).alloc (.cells #[.int .u8 7] 5))) HL.out 1 1 _ 1 1 [7] (By.lit w6 [7] 5 (by decide) (by decide) _ rfl) P2.out.2.1.b.size (.inl rfl) (by rw [P2.out.2.1.b.waits]; simp) 1 P2.out.2.2 rfl).mono ?_
  rintro e w7 ⟨rfl, hk⟩
  have HK := Lib.hid hk
  clear hk
  go_wp2_with fail
  refine (lose_dk HK.out 1 0 P3.out.1).mono ?_
  rintro e w8 ⟨rfl, hk⟩
  have HK := Lib.hid hk
  clear hk
  go_wp2_with fail
  have hld := Load_dk HK.out HL.out 0 1 (known0 P3.out.2.1.b.size (.inl rfl)) (by rw [P3.out.2.1.b.waits]; simp)
  rw [P3.out.2.2.1, P3.out.2.2.2.1, P3.out.2.2.2.2.1] at hld
  refine hld.mono ?_
  rintro e w9 ⟨A9, N9, rfl, hb9, hx9⟩
  obtain rfl : N9 = 0 := by have := hb9.len; simpa using this.symm
  have HK := Lib.hid (HK.out.ext hx9)
  clear hld hb9 hx9
  go_wp2_with fail
  have hld := Load_unknown (Sized.of HK.out.disk) (HL.out.ext HK.out.bel).a.t 0 3 (by rw [P3.out.2.2.2.2.2.1]; omega)
  rw [P3.out.2.2.2.2.2.1] at hld
  refine hld.mono ?_
  rintro e wa ⟨rfl, hxa⟩
  have HK := Lib.hid (HK.out.ext hxa)
  clear hld hxa
  go_wp2_with fail
  refine (loads_yes HK.out HL.out 2 0 none 0 0 [] (By.nil_ _) P3.out.2.1.b.size (.inr rfl) (by rw [P3.out.2.1.b.waits]; simp) 0 P3.out.2.2.2.2.2.2 rfl).mono ?_
  rintro e wb ⟨rfl, hk⟩
  have HK := Lib.hid hk
  clear hk
  go_wp2_with fail
  go_ret
  exact ⟨rfl, HK.out.bel⟩
end Go.Proofs.YtbflofkcfhihcaaDoor

namespace Go.Proofs.YtbflofkcfhihcaaDoor

/-- Both copies, or the one that leads. -/
def Some1 (m : DM) (g : Int) (v : Nat) (b : List Nat) : Prop :=
  (v = 0 ∧ b = [] ∧ m.hold (secV g 0) = z64 ∧ m.hold (secV g 1) = z64) ∨ (1 ≤ v ∧ ∃ c, Cop (m.hold (secV g 0)) g 0 v c b ∧ mfl (m.hold (secV g 1)) 0 g 1 3 ≤ v ∧ (mfl (m.hold (secV g 1)) 0 g 1 3 = v → mbl (m.hold (secV g 1)) 0 g 1 = b)) ∨ (1 ≤ v ∧ ∃ c, Cop (m.hold (secV g 1)) g 1 v c b ∧ mfl (m.hold (secV g 0)) 0 g 0 3 < v)
theorem Some1.ldd {m : DM} {g : Int} {v : Nat} {b : List Nat} (h : Some1 m g v b) : Ldd g (m.hold (secV g 0)) (m.hold (secV g 1)) 0 v b := by
  rcases h with ⟨rfl, rfl, h0, h1⟩ | ⟨_, c, h0, h1, _⟩ | ⟨_, c, h1, h0⟩
  · rw [h0, h1]
    exact ldd_blank (z64_blank 0 g 0) (z64_blank 0 g 1)
  · exact ldd0 h0 h1
  · exact ldd1 h1 (.inl h0)
theorem two_some {m : DM} {g : Int} {v : Nat} {b : List Nat} (h : Two m g v b) : Some1 m g v b := by
  rcases h with ⟨rfl, rfl, h0, h1⟩ | ⟨hv, c, d, h0, h1⟩
  · exact .inl ⟨rfl, rfl, h0, h1⟩
  · exact .inr (.inl ⟨hv, c, h0, by rw [h1.v3]; omega, fun _ => h1.bd⟩)
theorem z64_v (g p : Int) (k : Nat) : mfl z64 0 g p k = 0 := no_copy (by rw [z64_blank]; omega) k
/-- Behind a Store amid which the power goes, a crash and a start. -/
theorem Two.power {m : DM} {k : Nat} {g : Int} {v : Nat} {b : List Nat} (hd : CD m (k : Int)) (hg : g = 1 ∨ g = 2) (h : Two m g v b) (hv : v < 1099511627776) {c : Nat} (hc : 1 ≤ c ∧ c ≤ 1099511627776) {body : List Nat} (hn : body.length ≤ 43) (hb : ∀ x ∈ body, x < 256) (keep : List Bool) :
    ((m.store 0 g (c : Int) body).1 = if k < 4 then 5 else 0) ∧ ((m.store 0 g (c : Int) body).2.crash keep).1 = 0 ∧ ((m.store 0 g (c : Int) body).2.crash keep).2.start.1 = 0 ∧ CD ((m.store 0 g (c : Int) body).2.crash keep).2.start.2 (-1) ∧
      (Some1 ((m.store 0 g (c : Int) body).2.crash keep).2.start.2 g v b ∨ Some1 ((m.store 0 g (c : Int) body).2.crash keep).2.start.2 g (v + 1) body) ∧ (4 ≤ k → Two ((m.store 0 g (c : Int) body).2.crash keep).2.start.2 g (v + 1) body) := by
  obtain ⟨f, o, hf, ho, f0, f1, hs⟩ := h.store hd hg hv hc hn
  have ho1 : o ≤ 1 := by omega
  obtain ⟨r1, r2, r3, r4, r5, r6⟩ := hd.two_power (a := secV g f) (b := secV g o) (secV_lt hg hf) (secV_lt hg ho1) (sealC_sect (may_new hg hf hv hc) hn hb) (sealC_sect (may_new hg ho1 hv hc) hn hb) keep
  rw [hs]
  have n0 := cop_seal (may_new hg (p := 0) (by omega) hv hc) hn
  have n1 := cop_seal (may_new hg (p := 1) (by omega) hv hc) hn
  have both : ∀ m2 : DM, (∀ t, m2.hold t = if t = secV g o then sealC 0 g o (v + 1) c body else if t = secV g f then sealC 0 g f (v + 1) c body else m.hold t) → Two m2 g (v + 1) body := fun m2 hh => by
    refine .inr ⟨by omega, c, c, ?_, ?_⟩
    · have hff : f = 0 ∨ f = 1 := by omega
      rcases hff with rfl | rfl
      · obtain rfl : o = 1 := by omega
        rw [hh, if_neg secV_ne, if_pos rfl]; exact n0
      · obtain rfl : o = 0 := by omega
        rw [hh, if_pos rfl]; exact n0
    · have hff : f = 0 ∨ f = 1 := by omega
      rcases hff with rfl | rfl
      · obtain rfl : o = 1 := by omega
        rw [hh, if_pos rfl]; exact n1
      · obtain rfl : o = 0 := by omega
        rw [hh, if_neg (fun e => secV_ne e.symm), if_pos rfl]; exact n1
  refine ⟨r1, r2, r3, r4, ?_, fun hk => both _ (r6 hk)⟩
  cases r5 with
  | none hh => exact .inl (two_some (h.of_eq (hh _) (hh _)))
  | both hh => exact .inr (two_some (both _ hh))
  | one hh =>
    right
    rcases h with ⟨rfl, rfl, h0, h1⟩ | ⟨hv1, p, q, h0, h1⟩
    · obtain rfl := f0 rfl
      refine .inr (.inl ⟨by omega, c, by rw [hh, if_pos rfl]; exact n0, ?_, fun hq => ?_⟩)
      · rw [hh, if_neg (fun e => secV_ne e.symm), h1, z64_v]; omega
      · rw [hh, if_neg (fun e => secV_ne e.symm), h1, z64_v] at hq; omega
    · obtain rfl := f1 hv1
      refine .inr (.inr ⟨by omega, c, by rw [hh, if_pos rfl]; exact n1, ?_⟩)
      rw [hh, if_neg secV_ne, h0.v3]
      omega
/-- What Heal leaves. -/
theorem heal0 {m : DM} {g : Int} {v c : Nat} {b : List Nat} (hd : CD m (-1)) (hg : g = 1 ∨ g = 2) (hv : 1 ≤ v) (h0 : Cop (m.hold (secV g 0)) g 0 v c b) (h1 : mfl (m.hold (secV g 1)) 0 g 1 3 ≤ v) : ∃ m', m.heal 0 g = (0, m') ∧ CD m' (-1) ∧ Two m' g v b := by
  have ha := at0 h0 h1
  have hl := hd.ld hg (ldd0 h0 h1)
  have hx : m.hold (secV g 0) = [] ∨ Sect (m.hold (secV g 0)) := by rw [← hd.cb0 hg]; exact read_sect hd.b.ok _
  obtain ⟨_, _, _, hmay, hlen⟩ := mine_copy hx h0.st
  rw [h0.v3, h0.c4] at hmay
  rw [h0.bd] at hlen
  have hbl : ∀ z ∈ b, z < 256 := by
    rw [← h0.bd]
    rcases hx with e | e
    · rw [e]; intro z hz; unfold mbl obl bodyOf at hz; (repeat' split at hz) <;> simp at hz
    · intro z hz
      unfold mbl obl bodyOf at hz
      (repeat' split at hz) <;> first | (simp at hz; done) | exact e.2 z (List.mem_of_mem_drop (List.mem_of_mem_take hz))
  unfold DM.heal
  rw [if_neg (by rw [hl.e]; simp), hd.cb0 hg, hd.cb1 hg, ha]
  by_cases hs : sameC 0 g (m.hold (secV g 0)) (m.hold (secV g 1)) = true
  · rw [if_pos (.inr hs)]
    refine ⟨m, rfl, hd, .inr ⟨hv, c, mfl (m.hold (secV g 1)) 0 g 1 4, h0, ?_⟩⟩
    unfold sameC at hs
    rw [if_pos ha, Bool.and_eq_true, Bool.and_eq_true] at hs
    exact ⟨of_decide_eq_true hs.1, (of_decide_eq_true hs.2.1).trans h0.v3, rfl, (of_decide_eq_true hs.2.2).trans h0.bd⟩
  · rw [if_neg (fun h => h.elim (fun h => by cases h) hs)]
    have hf : ∀ k, cellF 0 g (m.hold (secV g 0)) (m.hold (secV g 1)) k = mfl (m.hold (secV g 0)) 0 g 0 k := fun k => by unfold cellF; rw [if_pos ha]
    have hb2 : cellB 0 g (m.hold (secV g 0)) (m.hold (secV g 1)) = b := by unfold cellB; rw [if_pos ha, h0.bd]
    rw [hf, hf, hb2, h0.v3, h0.c4, show firstS g (otherP 0) = (secV g 1 : Nat) from secV_first hg (p := 1) (by omega)]
    have hm1 : mayB 0 g ((1 : Nat) : Int) (v : Int) (c : Int) = true := may_other hg (.inr rfl) hmay
    obtain ⟨m', e, h2, k2⟩ := hd.put2 (s := secV g 1) (L := sealC 0 g (otherP 0) v c b) (.inl rfl) (secV_lt hg (by omega)) (sealC_sect hm1 hlen hbl)
    refine ⟨m', e, h2, .inr ⟨hv, c, c, by rw [k2, if_neg secV_ne]; exact h0, by rw [k2, if_pos rfl]; exact cop_seal hm1 hlen⟩⟩
theorem heal1 {m : DM} {g : Int} {v c : Nat} {b : List Nat} (hd : CD m (-1)) (hg : g = 1 ∨ g = 2) (hv : 1 ≤ v) (h1 : Cop (m.hold (secV g 1)) g 1 v c b) (h0 : mfl (m.hold (secV g 0)) 0 g 0 3 < v) : ∃ m', m.heal 0 g = (0, m') ∧ CD m' (-1) ∧ Two m' g v b := by
  have ha := at1 h1 (.inl h0)
  have hl := hd.ld hg (ldd1 h1 (.inl h0))
  have hx : m.hold (secV g 1) = [] ∨ Sect (m.hold (secV g 1)) := by rw [← hd.cb1 hg]; exact read_sect hd.b.ok _
  obtain ⟨_, _, _, hmay, hlen⟩ := mine_copy hx h1.st
  rw [h1.v3, h1.c4] at hmay
  rw [h1.bd] at hlen
  have hbl : ∀ z ∈ b, z < 256 := by
    rw [← h1.bd]
    rcases hx with e | e
    · rw [e]; intro z hz; unfold mbl obl bodyOf at hz; (repeat' split at hz) <;> simp at hz
    · intro z hz
      unfold mbl obl bodyOf at hz
      (repeat' split at hz) <;> first | (simp at hz; done) | exact e.2 z (List.mem_of_mem_drop (List.mem_of_mem_take hz))
  unfold DM.heal
  rw [if_neg (by rw [hl.e]; simp), hd.cb0 hg, hd.cb1 hg, ha]
  have hs : sameC 0 g (m.hold (secV g 0)) (m.hold (secV g 1)) = false := by
    unfold sameC
    rw [if_neg (by rw [ha]; omega), decide_eq_false (p := mfl (m.hold (secV g 0)) 0 g 0 3 = mfl (m.hold (secV g 1)) 0 g 1 3) (by rw [h1.v3]; omega)]
    simp
  rw [if_neg (fun h => h.elim (fun h => by cases h) (fun h => by rw [hs] at h; cases h))]
  have hf : ∀ k, cellF 0 g (m.hold (secV g 0)) (m.hold (secV g 1)) k = mfl (m.hold (secV g 1)) 0 g 1 k := fun k => by unfold cellF; rw [if_neg (by rw [ha]; omega), if_pos ha]
  have hb2 : cellB 0 g (m.hold (secV g 0)) (m.hold (secV g 1)) = b := by unfold cellB; rw [if_neg (by rw [ha]; omega), if_pos ha, h1.bd]
  rw [hf, hf, hb2, h1.v3, h1.c4, show firstS g (otherP 1) = (secV g 0 : Nat) from secV_first hg (p := 0) (by omega)]
  have hm1 : mayB 0 g ((0 : Nat) : Int) (v : Int) (c : Int) = true := may_other hg (.inl rfl) hmay
  obtain ⟨m', e, h2, k2⟩ := hd.put2 (s := secV g 0) (L := sealC 0 g (otherP 1) v c b) (.inl rfl) (secV_lt hg (by omega)) (sealC_sect hm1 hlen hbl)
  exact ⟨m', e, h2, .inr ⟨hv, c, c, by rw [k2, if_pos rfl]; exact cop_seal hm1 hlen, by rw [k2, if_neg (fun e => secV_ne e.symm)]; exact h1⟩⟩
theorem Some1.heal {m : DM} {g : Int} {v : Nat} {b : List Nat} (hd : CD m (-1)) (hg : g = 1 ∨ g = 2) (h : Some1 m g v b) : ∃ m', m.heal 0 g = (0, m') ∧ CD m' (-1) ∧ Two m' g v b := by
  rcases h with ⟨rfl, rfl, h0, h1⟩ | ⟨hv, c, h0, h1, _⟩ | ⟨hv, c, h1, h0⟩
  · have ha := atm (g := g) (x := z64) (y := z64) (by rw [z64_blank]; omega) (by rw [z64_blank]; omega)
    have hl := hd.ld (v := 0) (b := []) hg (by rw [h0, h1]; exact ldd_blank (z64_blank 0 g 0) (z64_blank 0 g 1))
    refine ⟨m, ?_, hd, .inl ⟨rfl, rfl, h0, h1⟩⟩
    unfold DM.heal
    rw [if_neg (by rw [hl.e]; simp), hd.cb0 hg, hd.cb1 hg, h0, h1, if_pos (.inl ha)]
  · exact heal0 hd hg hv h0 h1
  · exact heal1 hd hg hv h1 h0
end Go.Proofs.YtbflofkcfhihcaaDoor
