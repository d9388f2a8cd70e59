/-
  The contracts of the program's disk in one form: what it answers, that it is the next disk in plain words, and that no block but its own was written.
  The contracts of the observers' small functions: isHurt, known, knownPlace, restBytes, meantBytes, isBad.
  The contract of hurtSectors, as an iterator: those that are hurt come in order.
-/
import Derived.Test.YtldgamgdbneneaaDoorQ06
import Derived.Test.YtldgamgdbneneaaDoorQ12
import Derived.Test.YtldgamgdbneneaaDoorQ14
import Derived.Test.YtldgamgdbneneaaDoorQ18
import Derived.Test.YtldgamgdbneneaaDoorQ19
import Derived.Test.YtldgamgdbneneaaDoorQ20
import Derived.RangeFuncNested
import Derived.RangeFuncBound
import Derived.RangeFuncCalls
import Derived.RangeFuncLeaves
import Derived.Shelf.Abstract
import Derived.Shelf.RegionOpen
import Derived.WalkKit
import Derived.OwnWalkIn
import Derived.TacticsInMore
import Derived.LoopNIn
import Derived.LoopIn
namespace Go.Proofs.YtldgamgdbneneaaDoor
set_option maxRecDepth 100000
open Go Go.RowKit

/-- The blocks of a disk behind a call. -/
def grow (F : Nat → Prop) (w w' : World) (k : Nat) : Prop := F k ∨ (w.heap.size ≤ k ∧ k < w'.heap.size)
/-- A call at a disk that answers E and leaves the disk m'. -/
def Outc (d : Nat) (F : Nat → Prop) (w : World) (E : Int) (m' : DM) (e : Ending) (w' : World) : Prop := e = .returned (.int .i64 E) ∧ PDisk w' d (grow F w w') m' ∧ Mod F w w'
theorem PDisk.step {w w' : World} {d g : Nat} {pv pv' : Value} {F : Nat → Prop} {m' : DM} (h2 : ∀ k, Fp d g pv k → F k) (h3 : ∀ k, F k → k < w.heap.size) (hp : PD w' d g pv' m') (hm : Mod (Fp d g pv) w w')
    (hb : pv'.ownBlock = pv.ownBlock ∨ pv'.ownBlock = none ∨ ∃ i, pv'.ownBlock = some i ∧ w.heap.size ≤ i) : PDisk w' d (grow F w w') m' ∧ Mod F w w' := by
  refine ⟨⟨g, pv', hp, fun k hk => ?_, fun k hk => ?_⟩, hm.mono h2⟩
  · rcases hk with rfl | rfl | hk
    · exact .inl (h2 _ (.inl rfl))
    · exact .inl (h2 _ (.inr (.inl rfl)))
    · rcases hb with e | e | ⟨i, e, hi⟩
      · exact .inl (h2 _ (.inr (.inr (by rw [← e]; exact hk))))
      · rw [e] at hk; cases hk
      · rw [e] at hk
        injection hk with hk
        subst hk
        exact .inr ⟨hi, (hp.pen.lt i e).2⟩
  · rcases hk with hk | hk
    · exact Nat.lt_of_lt_of_le (h3 k hk) hm.size
    · exact hk.2

section
variable {w : World} {d : Nat} {F : Nat → Prop} {m : DM}
theorem flush_pd (h : PDisk w d F m) : Calls Tryd.prog 43 #[.pointer (some ⟨d, 0, none⟩)] w (Outc d F w m.flush.1 m.flush.2) := by
  obtain ⟨g, pv, hp, h2, h3⟩ := h
  refine (flush_of hp).mono fun e w' ⟨pv', h1, h4, h5, h6⟩ => ?_
  have := PDisk.step h2 h3 h4 (h6.mono fun i hi => hi.elim .inl fun h => .inr (.inl h)) (by
    rcases h5 with rfl | rfl
    · exact .inl rfl
    · exact .inr (.inl rfl))
  exact ⟨h1, this.1, this.2⟩
theorem crash_pd (h : PDisk w d F m) (kA : Option Addr) (kn kc : Nat) (kl : List Bool) (hk : Vs w w.heap.size kA kn kc (kl.map .bool)) (ho : 0 < kn → Off F kA) :
    Calls Tryd.prog 23 #[.pointer (some ⟨d, 0, none⟩), .slice kA kn kc] w (Outc d F w (m.crash kl).1 (m.crash kl).2) := by
  obtain ⟨g, pv, hp, h2, h3⟩ := h
  refine (crash_of hp kA kn kc kl hk fun hn p hA hi => ho hn p hA (h2 _ (hi.elim .inl fun h => .inr (.inl h)))).mono fun e w' ⟨pv', h1, h4, h5, h6⟩ => ?_
  have := PDisk.step h2 h3 h4 (h6.mono fun i hi => hi.elim .inl fun h => .inr (.inl h)) (by
    rcases h5 with rfl | rfl
    · exact .inl rfl
    · exact .inr (.inl rfl))
  exact ⟨h1, this.1, this.2⟩
theorem start_pd (h : PDisk w d F m) : Calls Tryd.prog 24 #[.pointer (some ⟨d, 0, none⟩)] w (Outc d F w m.start.1 m.start.2) := by
  obtain ⟨g, pv, hp, h2, h3⟩ := h
  refine (start_of hp).mono fun e w' ⟨h1, h4, h6⟩ => ?_
  have := PDisk.step h2 h3 h4 (h6.mono fun i hi => .inl hi) (.inl rfl)
  exact ⟨h1, this.1, this.2⟩
theorem power_pd (h : PDisk w d F m) (n : Int) (hn : n ≤ 9223372036854775807) : Calls Tryd.prog 25 #[.pointer (some ⟨d, 0, none⟩), .int .i64 n] w (Outc d F w (m.setPower n).1 (m.setPower n).2) := by
  obtain ⟨g, pv, hp, h2, h3⟩ := h
  refine (power_of hp n hn).mono fun e w' ⟨h1, h4, h6⟩ => ?_
  have := PDisk.step h2 h3 h4 (h6.mono fun i hi => .inl hi) (.inl rfl)
  exact ⟨h1, this.1, this.2⟩
theorem lose_pd (h : PDisk w d F m) (s : Int) : Calls Tryd.prog 60 #[.pointer (some ⟨d, 0, none⟩), .int .i64 s] w (Outc d F w (m.lose s).1 (m.lose s).2) := by
  obtain ⟨g, pv, hp, h2, h3⟩ := h
  refine (lose_of hp s).mono fun e w' ⟨h1, h4, h6⟩ => ?_
  have := PDisk.step h2 h3 h4 (h6.mono fun i hi => .inr (.inl hi)) (.inl rfl)
  exact ⟨h1, this.1, this.2⟩
theorem flip_pd (h : PDisk w d F m) (s b : Int) (hb : b ≤ 9223372036854775807) : Calls Tryd.prog 36 #[.pointer (some ⟨d, 0, none⟩), .int .i64 s, .int .i64 b] w (Outc d F w (m.flip s b).1 (m.flip s b).2) := by
  obtain ⟨g, pv, hp, h2, h3⟩ := h
  refine (flip_of hp s b hb).mono fun e w' ⟨h1, h4, h6⟩ => ?_
  have := PDisk.step h2 h3 h4 (h6.mono fun i hi => .inr (.inl hi)) (.inl rfl)
  exact ⟨h1, this.1, this.2⟩
theorem stray_pd (h : PDisk w d F m) (a b : Int) : Calls Tryd.prog 61 #[.pointer (some ⟨d, 0, none⟩), .int .i64 a, .int .i64 b] w (Outc d F w (m.stray a b).1 (m.stray a b).2) := by
  obtain ⟨g, pv, hp, h2, h3⟩ := h
  refine (stray_of hp a b).mono fun e w' ⟨h1, h4, h6⟩ => ?_
  have := PDisk.step h2 h3 h4 (h6.mono fun i hi => .inr (.inl hi)) (.inl rfl)
  exact ⟨h1, this.1, this.2⟩
theorem write_pd (h : PDisk w d F m) (s : Int) (A : Option Addr) (n c : Nat) (b : List Nat) (hb : By w A n c b) (ho : Off F A) (hfew : m.waits.length ≤ 1000000) :
    Calls Tryd.prog 40 #[.pointer (some ⟨d, 0, none⟩), .int .i64 s, .slice A n c] w (Outc d F w (m.write s b).1 (m.write s b).2) := by
  obtain ⟨g, pv, hp, h2, h3⟩ := h
  refine (write_of hp s A n c b hb (fun p hA hi => ho p hA (h2 _ (.inl hi))) hfew).mono fun e w' ⟨pv', h1, h4, h5, h6⟩ => ?_
  have := PDisk.step h2 h3 h4 h6 (h5.imp id .inr)
  exact ⟨h1, this.1, this.2⟩
theorem rest_pd (h : PDisk w d F m) (s : Int) : Calls Tryd.prog 19 #[.pointer (some ⟨d, 0, none⟩), .int .i64 s] w fun e w' => ∃ A n, e = .returned (.tuple #[.slice A n n, .bool (m.at_ s).2.1, .int .i64 (m.at_ s).2.2]) ∧ New w.heap.size w' A n (m.at_ s).1 ∧ Ext w w' := by
  obtain ⟨g, pv, hp, h2, h3⟩ := h
  exact rest_of hp s
theorem meant_pd (h : PDisk w d F m) (s : Int) : Calls Tryd.prog 57 #[.pointer (some ⟨d, 0, none⟩), .int .i64 s] w fun e w' => ∃ A n, e = .returned (.tuple #[.slice A n n, .int .i64 (m.means s).2]) ∧ New w.heap.size w' A n (m.means s).1 ∧ Ext w w' := by
  obtain ⟨g, pv, hp, h2, h3⟩ := h
  exact meant_of hp s
theorem size_pd (h : PDisk w d F m) : Calls Tryd.prog 35 #[.pointer (some ⟨d, 0, none⟩)] w fun e w' => e = .returned (.int .i64 (m.size : Nat)) ∧ w = w' := by
  obtain ⟨g, pv, hp, h2, h3⟩ := h
  exact size_of hp
theorem up_pd (h : PDisk w d F m) : Calls Tryd.prog 22 #[.pointer (some ⟨d, 0, none⟩)] w fun e w' => e = .returned (.bool m.up) ∧ w = w' := by
  obtain ⟨g, pv, hp, h2, h3⟩ := h
  exact up_of hp
end
theorem new_pdk (n : Nat) (w : World) (h1 : 1 ≤ n) (h2 : n ≤ 1024) :
    Calls Tryd.prog 7 #[.int .i64 (n : Int)] w fun e w' => ∃ d, e = .returned (.tuple #[.pointer (some ⟨d, 0, none⟩), .int .i64 0]) ∧ PDisk w' d (fun k => w.heap.size ≤ k ∧ k < w'.heap.size) (DM.new n) ∧ Ext w w' := by
  refine (new_yes n w h1 h2).mono fun e w' ⟨d, g, he, hp, hd, hg, hx⟩ => ⟨d, he, ⟨g, .slice none 0 0, hp, ?_, fun k hk => hk.2⟩, hx⟩
  intro k hk
  rcases hk with rfl | rfl | hk
  · exact ⟨hd, hp.lt⟩
  · exact ⟨hg, hp.glt⟩
  · cases hk
/-- How many writes wait at most, behind an act. -/
theorem act_waits (m : DM) (kind : Nat) (sec num : Int) (bytes : List Nat) (keep : List Bool) : (m.act kind sec num bytes keep).2.waits.length ≤ m.waits.length + 1 := by
  unfold DM.act
  split
  · unfold DM.flush; split
    · simp
    · split <;> simp
  · unfold DM.crash; split <;> simp
  · unfold DM.start; split <;> simp
  · unfold DM.flip; split <;> simp
  · unfold DM.lose; split <;> simp
  · unfold DM.stray; split <;> simp
  · unfold DM.setPower; split
    · simp
    · split <;> simp
  · unfold DM.write; split
    · simp
    · split
      · simp
      · split <;> simp
end Go.Proofs.YtldgamgdbneneaaDoor

namespace Go.Proofs.YtldgamgdbneneaaDoor
set_option maxRecDepth 100000
open Go Go.RowKit

theorem isHurt_of {w : World} {d : Nat} {F : Nat → Prop} {m : DM} (h : PDisk w d F m) (s : Int) :
    Calls Tryd.prog 53 #[.pointer (some ⟨d, 0, none⟩), .int .i64 s] w fun e w' => e = .returned (.bool (m.hurt s)) ∧ Ext w w' := by
  have H := Lib.hid h
  have hr := rest_pd h s
  obtain ⟨l, hl⟩ : ∃ l, (m.at_ s).1 = l := ⟨_, rfl⟩
  obtain ⟨lb, hlb⟩ : ∃ lb, (m.at_ s).2.1 = lb := ⟨_, rfl⟩
  obtain ⟨E, hE⟩ : ∃ E, (m.at_ s).2.2 = E := ⟨_, rfl⟩
  obtain ⟨l2, hl2⟩ : ∃ l, (m.means s).1 = l := ⟨_, rfl⟩
  obtain ⟨E2, hE2⟩ : ∃ E, (m.means s).2 = E := ⟨_, rfl⟩
  have HH : Hid (m.hurt s = (lb || !decide (l = l2))) := Lib.hid (by unfold DM.hurt; rw [hl, hlb, hl2])
  have hm : ∀ w', Ext w w' → Calls Tryd.prog 57 #[.pointer (some ⟨d, 0, none⟩), .int .i64 s] w' fun e w'' => ∃ A n, e = .returned (.tuple #[.slice A n n, .int .i64 E2]) ∧ New w'.heap.size w'' A n l2 ∧ Ext w' w'' := fun w' hx => by
    have := meant_pd (h.ext hx) s
    rwa [hl2, hE2] at this
  rw [hl, hlb, hE] at hr
  have HR := Lib.hid hr
  have HM := Lib.hid hm
  clear h hr hl hlb hE hl2 hE2 hm H
  go_enter Tryd.func53, Tryd.ntmps53
  go_wp2_with fail
  refine HR.out.mono ?_
  rintro e w1 ⟨A, n, rfl, hnew, hx⟩
  have HB := Lib.hid hnew.by
  have HX := Lib.hid hx
  clear hnew hx
  go_wp2_with fail
  refine (HM.out _ HX.out).mono ?_
  rintro e w2 ⟨A2, n2, rfl, hnew, hx⟩
  have HB2 := Lib.hid hnew.by
  have HB := Lib.hid (HB.out.ext hx)
  have HX := Lib.hid (HX.out.trans hx)
  clear hnew hx
  cases lb with
  | true =>
    go_wp2_with fail
    go_ret
    exact ⟨by rw [HH.out]; rfl, HX.out⟩
  | false =>
    go_wp2_with fail
    refine (equal_by A A2 l l2 n n2 n n2 _ HB.out HB2.out).mono ?_
    rintro e w3 ⟨rfl, rfl⟩
    go_wp2_with fail
    go_ret
    exact ⟨by rw [HH.out]; rfl, HX.out⟩

/-- What Size answers of a pointer, now and later. -/
def Sized (w : World) (p : Option Addr) (sz : Nat) : Prop := ∀ w', Ext w w' → Calls Tryd.prog 35 #[.pointer p] w' fun e w'' => e = .returned (.int .i64 (sz : Nat)) ∧ w' = w''
theorem Sized.ext {w w' : World} {p : Option Addr} {sz : Nat} (h : Sized w p sz) (k : Ext w w') : Sized w' p sz := fun _ hx => h _ (k.trans hx)
theorem Sized.of {w : World} {d : Nat} {F : Nat → Prop} {m : DM} (h : PDisk w d F m) : Sized w (some ⟨d, 0, none⟩) m.size := fun _ hx => size_pd (h.ext hx)

theorem gknown_of {w : World} {p : Option Addr} {sz : Nat} (hS : Sized w p sz) (hL : LaidT w) (r : Int) :
    Calls Tryd.prog 30 #[.pointer p, .int .i64 r] w fun e w' => e = .returned (.int .i64 (knownG sz r)) ∧ Ext w w' := by
  have HS := Lib.hid hS
  have HL := Lib.hid hL
  clear hS hL
  by_cases h0 : sz = 0
  · have HE : Hid (knownG sz r = 1) := Lib.hid (by unfold knownG; rw [if_pos h0])
    have h1 : ((sz : Int) == 0) = true := by simp [h0]
    clear h0
    go_enter Tryd.func30, Tryd.ntmps30
    go_wp2_with fail
    refine (HS.out _ (Ext.refl _)).mono ?_
    rintro e w1 ⟨rfl, rfl⟩
    go_wp2_with fail
    go_ret
    exact ⟨by rw [HE.out]; rfl, Ext.refl _⟩
  have h1 : ((sz : Int) == 0) = false := by simp; omega
  obtain ⟨E, hE⟩ : ∃ E, knownG sz r = E := ⟨_, rfl⟩
  have HE := Lib.hid hE
  by_cases h2 : sz < 156
  · have hE2 : knownG sz r = 2 := by unfold knownG; rw [if_neg h0, if_pos (.inl h2)]
    rw [hE2] at hE
    subst hE
    clear hE2 h0
    go_enter Tryd.func30, Tryd.ntmps30
    go_wp2_with fail
    refine (HS.out _ (Ext.refl _)).mono ?_
    rintro e w1 ⟨rfl, rfl⟩
    go_wp2_with fail
    refine (HS.out _ (Ext.refl _)).mono ?_
    rintro e w1 ⟨rfl, rfl⟩
    go_wp2_with fail
    refine (all_any _ HL.out).mono ?_
    rintro e w1 ⟨rfl, hx⟩
    have HX := Lib.hid hx
    clear hx
    go_wp2_with fail
    go_ret
    exact ⟨by rw [HE.out]; rfl, HX.out⟩
  by_cases h3 : r < 0
  · have hE2 : knownG sz r = 2 := by unfold knownG; rw [if_neg h0, if_pos (.inr (.inl h3))]
    rw [hE2] at hE
    subst hE
    clear hE2 h0
    go_enter Tryd.func30, Tryd.ntmps30
    go_wp2_with fail
    refine (HS.out _ (Ext.refl _)).mono ?_
    rintro e w1 ⟨rfl, rfl⟩
    go_wp2_with fail
    refine (HS.out _ (Ext.refl _)).mono ?_
    rintro e w1 ⟨rfl, rfl⟩
    go_wp2_with fail
    refine (all_any _ HL.out).mono ?_
    rintro e w1 ⟨rfl, hx⟩
    have HX := Lib.hid hx
    clear hx
    go_wp2_with fail
    go_ret
    exact ⟨by rw [HE.out]; rfl, HX.out⟩
  by_cases h4 : 7 ≤ r
  · have hE2 : knownG sz r = 2 := by unfold knownG; rw [if_neg h0, if_pos (.inr (.inr h4))]
    rw [hE2] at hE
    subst hE
    clear hE2 h0
    go_enter Tryd.func30, Tryd.ntmps30
    go_wp2_with fail
    refine (HS.out _ (Ext.refl _)).mono ?_
    rintro e w1 ⟨rfl, rfl⟩
    go_wp2_with fail
    refine (HS.out _ (Ext.refl _)).mono ?_
    rintro e w1 ⟨rfl, rfl⟩
    go_wp2_with fail
    refine (all_any _ HL.out).mono ?_
    rintro e w1 ⟨rfl, hx⟩
    have HX := Lib.hid hx
    clear hx
    go_wp2_with fail
    go_ret
    exact ⟨by rw [HE.out]; rfl, HX.out⟩
  · have hE2 : knownG sz r = 0 := by unfold knownG; rw [if_neg h0, if_neg (by omega)]
    rw [hE2] at hE
    subst hE
    clear hE2 h0
    go_enter Tryd.func30, Tryd.ntmps30
    go_wp2_with fail
    refine (HS.out _ (Ext.refl _)).mono ?_
    rintro e w1 ⟨rfl, rfl⟩
    go_wp2_with fail
    refine (HS.out _ (Ext.refl _)).mono ?_
    rintro e w1 ⟨rfl, rfl⟩
    go_wp2_with fail
    refine (all_any _ HL.out).mono ?_
    rintro e w1 ⟨rfl, hx⟩
    have HX := Lib.hid hx
    clear hx
    go_wp2_with fail
    go_ret
    exact ⟨by rw [HE.out]; rfl, HX.out⟩

theorem gplace_of {w : World} {p : Option Addr} {sz : Nat} (hS : Sized w p sz) (hL : LaidT w) (r g pl : Int) :
    Calls Tryd.prog 26 #[.pointer p, .int .i64 r, .int .i64 g, .int .i64 pl] w fun e w' => e = .returned (.int .i64 (placeG sz r g pl)) ∧ Ext w w' := by
  have hk := gknown_of hS hL r
  have HL := Lib.hid hL
  obtain ⟨E, hE⟩ : ∃ E, knownG sz r = E := ⟨_, rfl⟩
  rw [hE] at hk
  have HK := Lib.hid hk
  clear hS hL hk
  by_cases h0 : E = 0
  · subst h0
    by_cases h1 : firstS g pl < 0
    · have HP : Hid (placeG sz r g pl = 2) := Lib.hid (by unfold placeG; rw [hE, if_neg (by simp), if_pos h1])
      clear hE
      go_enter Tryd.func26, Tryd.ntmps26
      go_wp2_with fail
      refine HK.out.mono ?_
      rintro e w1 ⟨rfl, hx⟩
      have HX := Lib.hid hx
      clear hx
      go_wp2_with fail
      refine (first_any g pl _ (HL.out.ext HX.out)).mono ?_
      rintro e w2 ⟨rfl, hx⟩
      have HX := Lib.hid (HX.out.trans hx)
      clear hx
      go_wp2_with fail
      go_ret
      exact ⟨by rw [HP.out]; rfl, HX.out⟩
    · have HP : Hid (placeG sz r g pl = 0) := Lib.hid (by unfold placeG; rw [hE, if_neg (by simp), if_neg h1])
      clear hE
      go_enter Tryd.func26, Tryd.ntmps26
      go_wp2_with fail
      refine HK.out.mono ?_
      rintro e w1 ⟨rfl, hx⟩
      have HX := Lib.hid hx
      clear hx
      go_wp2_with fail
      refine (first_any g pl _ (HL.out.ext HX.out)).mono ?_
      rintro e w2 ⟨rfl, hx⟩
      have HX := Lib.hid (HX.out.trans hx)
      clear hx
      go_wp2_with fail
      go_ret
      exact ⟨by rw [HP.out]; rfl, HX.out⟩
  · have HP : Hid (placeG sz r g pl = E) := Lib.hid (by unfold placeG; rw [hE, if_pos h0])
    have hne : (E != 0) = true := by simpa using h0
    clear hE h0
    go_enter Tryd.func26, Tryd.ntmps26
    go_wp2_with fail
    refine HK.out.mono ?_
    rintro e w1 ⟨rfl, hx⟩
    have HX := Lib.hid hx
    clear hx
    go_wp2_with fail
    go_ret
    exact ⟨by rw [HP.out]; rfl, HX.out⟩
end Go.Proofs.YtldgamgdbneneaaDoor

namespace Go.Proofs.YtldgamgdbneneaaDoor
set_option maxRecDepth 100000
open Go Go.RowKit Go.Shelf
attribute [local go_sem] Oper.semAt_some

/-- A sector among k from a on. -/
abbrev SecIn (a : Int) (k : Nat) := { x : Int // a ≤ x ∧ x < a + k }
def encS (a : Int) (k : Nat) (x : SecIn a k) : Array Value := #[.int .i64 x.1]
theorem grown_of_ext {w w' : World} (h : Ext w w') : w.grownBy w' none := ⟨h.os, h.tape, h.output, h.size, fun k hk _ => h.block k hk⟩
theorem mod_cell {G : Nat → Prop} {w w' : World} (k : Mod G w w') {g i : Nat} {v : Value} (hg : ¬ G g) (h : w.cell? ⟨g, i, none⟩ = some v) : w'.cell? ⟨g, i, none⟩ = some v :=
  (World.cell?_of_block (a := ⟨g, i, none⟩) (k.block g (World.block_lt_of_cell? w _ h) hg)).trans h
theorem ext_of_cell {w w' : World} {g i : Nat} {v : Value} (h : Ext w w') (hc : w.cell? ⟨g, i, none⟩ = some v) : w'.cell? ⟨g, i, none⟩ = some v := (Below.cell h (p := ⟨g, i, none⟩) (World.block_lt_of_cell? w _ hc)).trans hc
theorem mod_put {G : Nat → Prop} {w W : World} (l : Nat) (o o' : Obj) (hG : ∀ k, w.heap.size ≤ k → G k) (hl : w.heap.size ≤ l) (_ : W.heap[l]? = some o) : Mod G W (W.putObj l o') :=
  (Mod.refl G W).grown (grownBy_putObj' W l o') (fun k e => by cases e; exact .inl (hG l hl))
theorem own_mod_from {β : Type} {G : Nat → Prop} {B : Nat} {w : World} (hG : ∀ k, B ≤ k → G k) : OwnFrom B (fun (_ : β) W => Mod G w W) :=
  fun _ _ _ _ hs hg hr => hs.grown hg (fun k e => .inl (hG k (hr k e).1))

/-- What the iterator stands on: that the sectors' answers abide where the blocks of G alone are written. -/
def HurtsOn (G : Nat → Prop) (W0 : World) (p : Option Addr) (a : Int) (k : Nat) (h : Int → Bool) : Prop :=
  ∀ x : Int, a ≤ x → x < a + k → ∀ W, Mod G W0 W → Calls Tryd.prog 53 #[.pointer p, .int .i64 x] W fun e W' => e = .returned (.bool (h x)) ∧ Ext W W'
theorem HurtsOn.of {G : Nat → Prop} {W0 : World} {d : Nat} {F : Nat → Prop} {m : DM} (hd : PDisk W0 d F m) (hG : ∀ i, F i → ¬ G i) (a : Int) (k : Nat) : HurtsOn G W0 (some ⟨d, 0, none⟩) a k m.hurt :=
  fun x _ _ _ hm => isHurt_of (hd.mod hm hG) x
theorem HurtsOn.none (G : Nat → Prop) (W0 : World) (p : Option Addr) (a : Int) (h : Int → Bool) : HurtsOn G W0 p a 0 h := fun x h1 h2 => by omega

set_option maxHeartbeats 600000 in
theorem sectors_in (p : Option Addr) (a : Int) (k : Nat) (w : World) :
    Calls Tryd.prog 27 #[.pointer p, .int .i64 a, .int .i64 (k : Int)] w fun e w' => e = .returned (.func (.func 52) #[] #[.pointer (some ⟨w.heap.size + 1, 0, none⟩), .pointer (some ⟨w.heap.size + 1 + 1, 0, none⟩), .pointer (some ⟨w.heap.size, 0, none⟩)]) ∧
      w' = ((w.alloc (.cells #[.pointer p] 23)).alloc (.cells #[.int .i64 a] 3)).alloc (.cells #[.int .i64 (k : Int)] 3) := by
  go_enter Tryd.func27, Tryd.ntmps27
  go_wp2
  go_ret
  exact ⟨rfl, rfl⟩

set_option maxRecDepth 100000 in
set_option maxHeartbeats 1600000 in
theorem hurt1_in (n : Nat) (hn : 1 ≤ n) (l Bf Bs Bd : Nat) (G : Nat → Prop) (p : Option Addr) (a : Int) (k : Nat) (ha : 0 ≤ a ∧ a ≤ 2000) (hk : k ≤ 2000) (h : Int → Bool) (J Jx : List (SecIn a k) → World → Prop) (W0 V : World) (hV : Mod G W0 V)
    (hAb : ∀ s W W', J s W → Ext W W' → J s W') (hI : HurtsOn G W0 p a k h) (hGf : ¬ G Bf ∧ ¬ G Bs ∧ ¬ G Bd)
    (hf : V.cell? ⟨Bf, 0, none⟩ = some (.int .i64 a)) (hs : V.cell? ⟨Bs, 0, none⟩ = some (.int .i64 (k : Int))) (hd : V.cell? ⟨Bd, 0, none⟩ = some (.pointer p))
    (hY : ∀ pre x W, J pre W → pre.length < k → YieldAt Fence.wide (n - 1) Tryd.prog l (encS a k x) W fun e W' =>
      (e = .returned (.bool true) ∧ J (pre ++ [x]) W' ∧ Mod G W W') ∨ (e = .returned (.bool false) ∧ Jx (pre ++ [x]) W')) (h0 : J [] V) :
    CallsIn Fence.wide n Tryd.prog 52 #[.func (.yield l) #[] #[], .pointer (some ⟨Bf, 0, none⟩), .pointer (some ⟨Bs, 0, none⟩), .pointer (some ⟨Bd, 0, none⟩)] V fun e W' => (∃ v, e = .returned v) ∧
      ((∃ ys : List (SecIn a k), ys.map (fun x => x.1) = hurtsIn h a k ∧ J ys W') ∨ (∃ pre : List (SecIn a k), pre.map (fun x => x.1) <+: hurtsIn h a k ∧ Jx pre W')) := by
  have HI := Lib.hid hI
  have HG := Lib.hid hGf
  have HF := Lib.hid hf
  have HS := Lib.hid hs
  have HD := Lib.hid hd
  have HAB := Lib.hid hAb
  have HV := Lib.hid hV
  obtain ⟨ha0, ha1⟩ := ha
  clear hI hGf hs hd hAb hV
  refine callsIn_of_wp Tryd.func52 rfl trivial ?_ rfl
  simp only [Tryd.ntmps52, List.size_toArray, List.length_cons, List.length_nil, Nat.reduceAdd, Nat.reduceSub, Array.replicate_succ, Array.replicate_zero, List.push_toArray, List.append_toArray, List.nil_append, List.cons_append]
  gi_wp2
  gi_loopw [5] (fun i wr => ∃ (j : Nat) (pre : List (SecIn a k)), j ≤ k ∧ i = .int .i64 (a + (j : Int)) ∧ Hid (pre.map (fun x => x.1) = hurtsIn h a j) ∧ Hid (pre.length ≤ j) ∧ Hid (J pre wr) ∧ Hid (Mod G V wr)) (fun i _ => (a + (k : Int) - intOf i).toNat)
  case atStart => exact ⟨0, [], Nat.zero_le _, by rw [Int.natCast_zero, Int.add_zero], Lib.hid rfl, Lib.hid (Nat.le_refl _), Lib.hid h0, Lib.hid (Mod.refl _ _)⟩
  case round =>
    obtain ⟨j, pre, hj, rfl, HP, HLE, HJ, HM⟩ := hrel
    have cf := mod_cell HM.out HG.out.1 HF.out
    have cs := mod_cell HM.out HG.out.2.1 HS.out
    have cd := mod_cell HM.out HG.out.2.2 HD.out
    clear hf
    by_cases hlt : j < k
    · have hlt2 : a + (j : Int) < a + (k : Int) := by omega
      have hc := HI.out (a + (j : Int)) (by omega) hlt2 wr (HV.out.trans HM.out fun _ hi => .inl hi)
      have hsucc := hurtsIn_succ h a j
      cases hh : h (a + (j : Int)) with
      | true =>
        rw [hh] at hc
        rw [if_pos hh] at hsucc
        have hc2 : Calls Tryd.prog 53 #[.pointer p, .int .i64 (a + (j : Int))] wr fun e W' => e = .returned (.bool true) ∧ (∃ fn tmps assign body, (Instr.yield l #[.int .i64 (a + (j : Int))]).run Tryd.prog W' = .ok (.round l fn tmps assign body) W' ∧ Hid (RoundIn Fence.wide (n - 1) Tryd.prog l fn tmps assign body W' fun e W' => (e = .returned (.bool true) ∧ Hid (J (pre ++ [⟨a + (j : Int), by omega, hlt2⟩]) W') ∧ Hid (Mod G V W')) ∨ (e = .returned (.bool false) ∧ Hid (Jx (pre ++ [⟨a + (j : Int), by omega, hlt2⟩]) W'))) ) :=
          hc.mono fun e W' ⟨he, hx⟩ => by
            obtain ⟨fn, tmps, assign, body, hy, hR⟩ := hY pre ⟨a + (j : Int), by omega, hlt2⟩ W' (HAB.out _ _ _ HJ.out hx) (Nat.lt_of_le_of_lt HLE.out hlt)
            exact ⟨he, fn, tmps, assign, body, hy, Lib.hid (hR.mono fun e W3 hh => hh.imp (fun ⟨a1, a2, a3⟩ => ⟨a1, Lib.hid a2, Lib.hid ((HM.out.ext hx).trans a3 fun _ hi => .inl hi)⟩) (fun ⟨a1, a2⟩ => ⟨a1, Lib.hid a2⟩))⟩
        have HC := Lib.hid hc2
        have HSU := Lib.hid hsucc
        clear hc hc2 hsucc hh
        gi_wp2_with (refine ⟨trivial, ?_⟩; gi_at_call 53; refine (callsIn_wide.2 HC.out).mono ?_; rintro e W3 ⟨rfl, fn, tmps, assign, body, hy, HR⟩)
        refine HR.out.mono ?_
        rintro e W4 (⟨rfl, HJ4, HM4⟩ | ⟨rfl, HJ4⟩)
        · gi_wp2
          go_roundw
          case rel => exact ⟨j + 1, _, by omega, by go_num, Lib.hid (by rw [List.map_append, HP.out, HSU.out]; rfl), Lib.hid (by have := HLE.out; simp; omega), HJ4, HM4⟩
          case measure => simp [intOf]; omega
        · gi_wp2
          refine bodyPost_ret (results_none rfl _ _ _) rfl ?_
          refine ⟨⟨_, rfl⟩, .inr ⟨_, ?_, HJ4.out⟩⟩
          rw [List.map_append, HP.out, List.map_cons, List.map_nil, ← HSU.out]
          have : ∀ q, hurtsIn h a (j + 1) <+: hurtsIn h a (j + 1 + q) := fun q => by
            induction q with
            | zero => exact List.prefix_refl _
            | succ q ih =>
              refine ih.trans ?_
              rw [show j + 1 + (q + 1) = (j + 1 + q) + 1 by omega, hurtsIn_succ h a (j + 1 + q)]
              split
              · exact List.prefix_append _ _
              · exact List.prefix_refl _
          have h2 := this (k - (j + 1))
          rwa [show j + 1 + (k - (j + 1)) = k by omega] at h2
      | false =>
        rw [hh] at hc
        rw [if_neg (by rw [hh]; simp)] at hsucc
        have hc2 : Calls Tryd.prog 53 #[.pointer p, .int .i64 (a + (j : Int))] wr fun e W' => e = .returned (.bool false) ∧ Hid (J pre W') ∧ Hid (Mod G V W') :=
          hc.mono fun e W' ⟨he, hx⟩ => ⟨he, Lib.hid (HAB.out _ _ _ HJ.out hx), Lib.hid (HM.out.ext hx)⟩
        have HC := Lib.hid hc2
        have HSU := Lib.hid hsucc
        clear hc hc2 hsucc hh
        gi_wp2_with (refine ⟨trivial, ?_⟩; gi_at_call 53; refine (callsIn_wide.2 HC.out).mono ?_; rintro e W3 ⟨rfl, HJ3, HM3⟩)
        refine ⟨fun _ h => (by cases h), ?_⟩
        gi_wp2
        go_roundw
        case rel => exact ⟨j + 1, pre, by omega, by go_num, Lib.hid (by rw [HP.out, HSU.out]), Lib.hid (by have := HLE.out; omega), HJ3, HM3⟩
        case measure => simp [intOf]; omega
    · obtain rfl : j = k := by omega
      gi_wp2
      go_end0
      exact ⟨⟨_, rfl⟩, .inl ⟨pre, HP.out, HJ.out⟩⟩

theorem hurt_stops (n : Nat) (hn : 1 ≤ n) (Bf Bs Bd : Nat) (G : Nat → Prop) (p : Option Addr) (a : Int) (k : Nat) (ha : 0 ≤ a ∧ a ≤ 2000) (hk : k ≤ 2000) (h : Int → Bool) (W0 : World) (hI : HurtsOn G W0 p a k h) (hGf : ¬ G Bf ∧ ¬ G Bs ∧ ¬ G Bd)
    (hf : W0.cell? ⟨Bf, 0, none⟩ = some (.int .i64 a)) (hs : W0.cell? ⟨Bs, 0, none⟩ = some (.int .i64 (k : Int))) (hd : W0.cell? ⟨Bd, 0, none⟩ = some (.pointer p)) :
    SeqStopsK Fence.wide n Tryd.prog 52 #[.pointer (some ⟨Bf, 0, none⟩), .pointer (some ⟨Bs, 0, none⟩), .pointer (some ⟨Bd, 0, none⟩)] (encS a k) (Mod G)
      (fun ys => ys.map (fun x => x.1) = hurtsIn h a k) (fun pre => pre.map (fun x => x.1) <+: hurtsIn h a k) k W0 := fun l J Jx V hV hJ _ hY h0 => by
  have hx : Ext W0 V := hV
  have hm : Mod G W0 V := Mod.of_ext hx
  exact hurt1_in n hn l Bf Bs Bd G p a k ha hk h J Jx W0 V hm (fun s W W' hs hx => hJ s W W' none hs (grown_of_ext hx) (fun r e => by cases e)) hI hGf (mod_cell hm hGf.1 hf) (mod_cell hm hGf.2.1 hs) (mod_cell hm hGf.2.2 hd) hY h0
end Go.Proofs.YtldgamgdbneneaaDoor
