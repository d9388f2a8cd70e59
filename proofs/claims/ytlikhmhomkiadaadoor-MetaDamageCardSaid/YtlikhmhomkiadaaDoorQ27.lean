/-
  Plain facts on metadata on a disk: what Begin and Promise answer, and what they leave, with power or without.
  The contracts of cell's small functions: known, other, leads, isBlank, which, repeats.
  The contracts of leads and isBlank, as method values; of which over them; of repeats.
-/
import Derived.Test.YtlikhmhomkiadaaDoorQ12
import Derived.Test.YtlikhmhomkiadaaDoorQ18
import Derived.Test.YtlikhmhomkiadaaDoorQ22
import Derived.Test.YtlikhmhomkiadaaDoorQ23
import Derived.Test.YtlikhmhomkiadaaDoorQ26
import Derived.LoopN
import Derived.Deep.RegionHeld3
namespace Go.Proofs.YtlikhmhomkiadaaDoor

/-- What is loaded: the error, and the numbers. -/
def DM.ldE (m : DM) (r : Int) : Int := if m.loadE r 1 ≠ 0 then m.loadE r 1 else if m.loadV r 1 = 0 then 0 else uE (m.loadB r 1)
def DM.ldF (m : DM) (r : Int) (k : Nat) : Nat := if m.loadE r 1 ≠ 0 then 0 else if m.loadV r 1 = 0 then 0 else uF (m.loadB r 1) k
/-- What a call answers, and leaves. -/
structure UO where
  e : Int
  a : Int
  b : Int
  c : Int
  m : DM
def DM.storeU (m : DM) (r a b c : Int) : UO :=
  if (m.store r 1 c (uL a b c)).1 ≠ 0 then ⟨(m.store r 1 c (uL a b c)).1, 0, 0, 0, (m.store r 1 c (uL a b c)).2⟩ else ⟨0, a, b, c, (m.store r 1 c (uL a b c)).2⟩
def DM.beginU (m : DM) (r : Int) : UO :=
  if m.ldE r ≠ 0 then ⟨m.ldE r, 0, 0, 0, m⟩ else if m.ldF r 2 = 1099511627776 then ⟨4, 0, 0, 0, m⟩ else
    if (m.heal r 1).1 ≠ 0 then ⟨(m.heal r 1).1, 0, 0, 0, (m.heal r 1).2⟩ else (m.heal r 1).2.storeU r (m.ldF r 0) (m.ldF r 1) (1 + (m.ldF r 2 : Int))
def DM.promU (m : DM) (r a b c x y : Int) : UO := if promOk a b c x y = true then m.storeU r x y c else ⟨2, 0, 0, 0, m⟩

theorem putC_size (m : DM) (s : Int) (L : List Nat) : (m.putC s L).2.size = m.size := by
  have hw : (m.write s L).2.size = m.size := by unfold DM.write DM.size; (repeat' split) <;> rfl
  unfold DM.putC
  split
  · exact hw
  · rw [← hw]
    generalize (m.write s L).2 = m1
    unfold DM.flush
    (repeat' split)
    · rfl
    · rfl
    · show (DM.comes _ _).size = _
      rw [DM.comes_size]
      rfl
theorem putU_waits (m : DM) (s : Int) (L : List Nat) : (m.putC s L).2.waits.length ≤ m.waits.length + 1 := by
  have hw : (m.write s L).2.waits.length ≤ m.waits.length + 1 := by
    unfold DM.write
    (repeat' split) <;> simp
  unfold DM.putC
  split
  · exact hw
  · refine Nat.le_trans ?_ hw
    generalize (m.write s L).2 = m1
    unfold DM.flush
    (repeat' split) <;> simp
theorem heal_size (m : DM) (r g : Int) : (m.heal r g).2.size = m.size := by
  unfold DM.heal
  (repeat' split)
  · rfl
  · rfl
  · exact putC_size _ _ _
theorem heal_waits (m : DM) (r g : Int) : (m.heal r g).2.waits.length ≤ m.waits.length + 1 := by
  unfold DM.heal
  (repeat' split)
  · simp
  · simp
  · exact putU_waits _ _ _

/-- What holds behind any crash and a start. -/
def After (m : DM) (P : DM → Prop) : Prop := ∀ keep : List Bool, (m.crash keep).1 = 0 ∧ (m.crash keep).2.start.1 = 0 ∧ CD (m.crash keep).2.start.2 (-1) ∧ P (m.crash keep).2.start.2
theorem After.mono {m : DM} {P Q : DM → Prop} (h : After m P) (k : ∀ n, P n → Q n) : After m Q := fun keep => by
  obtain ⟨h1, h2, h3, h4⟩ := h keep
  exact ⟨h1, h2, h3, k _ h4⟩
section
variable {m : DM} {pw : Int} {r : Int} {v : Nat} {b : List Nat}
theorem CD.put_any (h : CD m pw) (hp : -1 ≤ pw) {s : Nat} {L : List Nat} (hs : s < 156) (hL : Sect L) :
    ∃ m', (m.putC (s : Int) L = (0, m') ∧ ∃ q, -1 ≤ q ∧ (pw = -1 → q = -1) ∧ CD m' q ∧ ∀ t, m'.hold t = if t = s then L else m.hold t) ∨
      (pw ≠ -1 ∧ m.putC (s : Int) L = (5, m') ∧ After m' fun n => (∀ t, n.hold t = m.hold t) ∨ ∀ t, n.hold t = if t = s then L else m.hold t) := by
  have hk : pw = 0 ∨ pw = 1 ∨ (pw = -1 ∨ 2 ≤ pw) := by omega
  rcases hk with rfl | rfl | hk
  · obtain ⟨m', e, h1, k1⟩ := h.put0 hs hL
    refine ⟨m', .inr ⟨by omega, e, fun keep => ?_⟩⟩
    obtain ⟨c1, c2, c3, c4⟩ := h1.again keep
    exact ⟨c1, c2, c3, .inl fun t => (c4 t).trans (k1 t)⟩
  · obtain ⟨m', e, h1, k1⟩ := h.put1 hs hL
    refine ⟨m', .inr ⟨by omega, e, fun keep => ?_⟩⟩
    obtain ⟨c1, c2, c3, c4⟩ := h1.again keep
    refine ⟨c1, c2, c3, ?_⟩
    rcases lastW_oneall s L keep with hw | hw
    · exact .inl fun t => by rw [c4, hw]; exact k1 t
    · exact .inr fun t => by rw [c4, hw, k1]
  · obtain ⟨m', e, h1, k1⟩ := h.put2 hk hs hL
    exact ⟨m', .inl ⟨e, _, by unfold lessP; (repeat' split) <;> omega, fun e => by subst e; rfl, h1, k1⟩⟩
theorem SomeU.of_eq {m' : DM} {g : Int} (h : SomeU r m g v b) (h0 : m'.hold (secV g 0) = m.hold (secV g 0)) (h1 : m'.hold (secV g 1) = m.hold (secV g 1)) : SomeU r m' g v b := by
  unfold SomeU
  rw [h0, h1]
  exact h
theorem SomeU.healed (h : SomeU r m 1 v b) (hd : CD m pw) (hp : -1 ≤ pw) :
    ∃ m', (m.heal r 1 = (0, m') ∧ ∃ q, -1 ≤ q ∧ (pw = -1 → q = -1) ∧ CD m' q ∧ TwoU r m' 1 v b) ∨ (pw ≠ -1 ∧ m.heal r 1 = (5, m') ∧ After m' fun n => SomeU r n 1 v b) := by
  rcases h.heal hd (.inl rfl) with ⟨e, ht⟩ | ⟨s, L, hs, hL, e, ht⟩
  · exact ⟨m, .inl ⟨e, pw, hp, fun h => h, hd, ht⟩⟩
  · obtain ⟨m', h1 | ⟨h1, h2, h3⟩⟩ := hd.put_any hp hs hL
    · obtain ⟨h1, q, h2, h3, h4, h5⟩ := h1
      exact ⟨m', .inl ⟨e.trans h1, q, h2, h3, h4, ht m' h5⟩⟩
    · refine ⟨m', .inr ⟨h1, e.trans h2, h3.mono fun n hn => ?_⟩⟩
      rcases hn with hn | hn
      · exact h.of_eq (hn _) (hn _)
      · exact two_someU (ht n hn)
theorem TwoU.storing (h : TwoU r m 1 v b) (hr : 0 ≤ r ∧ r < 7) (hd : CD m pw) (hp : -1 ≤ pw) (hv : v < 1099511627776) {c : Int} (hc : 1 ≤ c ∧ c ≤ 1099511627776) {body : List Nat} (hn : body.length ≤ 43) (hb : ∀ x ∈ body, x < 256) :
    ∃ m', (m.store r 1 c body = (0, m') ∧ ∃ q, -1 ≤ q ∧ (pw = -1 → q = -1) ∧ CD m' q ∧ TwoU r m' 1 (v + 1) body) ∨ (pw ≠ -1 ∧ m.store r 1 c body = (5, m') ∧ After m' fun n => SomeU r n 1 v b ∨ SomeU r n 1 (v + 1) body) := by
  obtain ⟨c, rfl⟩ := Int.eq_ofNat_of_zero_le (show 0 ≤ c by omega)
  have hc : 1 ≤ c ∧ c ≤ 1099511627776 := by omega
  have g1 : (1 : Int) = 1 ∨ (1 : Int) = 2 := .inl rfl
  by_cases hk : pw = -1 ∨ 4 ≤ pw
  · obtain ⟨f, o, hf, ho, _, _, hs⟩ := h.store hd g1 hv hc hn
    have ho1 : o ≤ 1 := by omega
    obtain ⟨m', q, e, h1, h2, h3⟩ := hd.two_ok (a := secV 1 f) (b := secV 1 o) hk (secV_lt g1 hf) (secV_lt g1 ho1) (sealC_sect (may_newU hr g1 hf hv hc) hn hb) (sealC_sect (may_newU hr g1 ho1 hv hc) hn hb)
    have n0 := cop_sealU (may_newU hr g1 (p := 0) (by omega) hv hc) hn
    have n1 := cop_sealU (may_newU hr g1 (p := 1) (by omega) hv hc) hn
    refine ⟨m', .inl ⟨hs.trans e, q, ?_, h2, h1, .inr ⟨by omega, c, c, ?_, ?_⟩⟩⟩
    · have := h1.b.ok.power
      rw [h1.power] at this
      exact this
    · have hff : f = 0 ∨ f = 1 := by omega
      rcases hff with rfl | rfl
      · obtain rfl : o = 1 := by omega
        rw [h3, if_neg secV_ne, if_pos rfl]; exact n0
      · obtain rfl : o = 0 := by omega
        rw [h3, if_pos rfl]; exact n0
    · have hff : f = 0 ∨ f = 1 := by omega
      rcases hff with rfl | rfl
      · obtain rfl : o = 1 := by omega
        rw [h3, if_pos rfl]; exact n1
      · obtain rfl : o = 0 := by omega
        rw [h3, if_neg (fun e => secV_ne e.symm), if_pos rfl]; exact n1
  · obtain ⟨k, rfl⟩ := Int.eq_ofNat_of_zero_le (show 0 ≤ pw by omega)
    refine ⟨(m.store r 1 (c : Int) body).2, .inr ⟨by omega, ?_, fun keep => ?_⟩⟩
    · have := (h.power hr hd g1 hv hc hn hb []).1
      rw [if_pos (by omega)] at this
      exact Prod.ext this rfl
    · obtain ⟨_, h2, h3, h4, h5, _⟩ := h.power hr hd g1 hv hc hn hb keep
      exact ⟨h2, h3, h4, h5⟩
/-- What is stored, told by version and body: the numbers. -/
def Sto (v : Nat) (body : List Nat) (A B C : Int) : Prop := (v = 0 ∧ A = 0 ∧ B = 0 ∧ C = 0) ∨ (1 ≤ v ∧ mayU A B C = true ∧ body = uL A B C)
theorem Sto.next {A B C : Int} {body : List Nat} (h : Sto v body A B C) (hC : C < 1099511627776) : mayU A B (1 + C) = true := by
  rcases h with ⟨_, rfl, rfl, rfl⟩ | ⟨_, h, _⟩
  · decide
  · rw [mayU_iff] at h ⊢
    omega
theorem Sto.of {A B C : Int} (h : mayU A B C = true) : Sto (v + 1) (uL A B C) A B C := .inr ⟨by omega, h, rfl⟩
theorem LdU.read {A B C : Int} {body : List Nat} (h : LdU r m 1 v body) (hs : Sto v body A B C) : m.ldE r = 0 ∧ (m.ldF r 0 : Int) = A ∧ (m.ldF r 1 : Int) = B ∧ (m.ldF r 2 : Int) = C := by
  unfold DM.ldE DM.ldF
  rw [h.e, h.v, h.b]
  simp only [ne_eq, not_true_eq_false, if_false]
  rcases hs with ⟨rfl, rfl, rfl, rfl⟩ | ⟨hv, hm, rfl⟩
  · simp
  · have h0 : ¬ v = 0 := by omega
    obtain ⟨e, f0, f1, f2⟩ := uBack hm
    simp only [if_neg h0]
    exact ⟨uE_yes e, f0, f1, f2⟩
/-- What a call does that goes well, or that lacks power. -/
structure Told (r : Int) (pw : Int) (o : UO) (a b c : Int) (v : Nat) (body : List Nat) : Prop where
  two : (o.e = 0 ∧ o.a = a ∧ o.b = b ∧ o.c = c ∧ ∃ q, -1 ≤ q ∧ (pw = -1 → q = -1) ∧ CD o.m q ∧ TwoU r o.m 1 (v + 1) (uL a b c)) ∨
    (pw ≠ -1 ∧ o.e = 5 ∧ o.a = 0 ∧ o.b = 0 ∧ o.c = 0 ∧ After o.m fun n => SomeU r n 1 v body ∨ SomeU r n 1 (v + 1) (uL a b c))
theorem TwoU.told {x y c : Int} {body : List Nat} (h : TwoU r m 1 v body) (hr : 0 ≤ r ∧ r < 7) (hd : CD m pw) (hp : -1 ≤ pw) (hv : v < 1099511627776) (hm : mayU x y c = true) : Told r pw (m.storeU r x y c) x y c v body := by
  have hc : 1 ≤ c ∧ c ≤ 1099511627776 := (mayU_iff.1 hm).2
  obtain ⟨m', h1 | ⟨h1, h2, h3⟩⟩ := h.storing hr hd hp hv hc (body := uL x y c) (by rw [uL_len hm]; omega) (uL_lt x y c)
  · obtain ⟨h1, h2⟩ := h1
    unfold DM.storeU
    rw [h1]
    exact ⟨.inl ⟨rfl, rfl, rfl, rfl, h2⟩⟩
  · unfold DM.storeU
    rw [h2]
    exact ⟨.inr ⟨h1, rfl, rfl, rfl, rfl, h3⟩⟩
theorem SomeU.begun {A B C : Int} {body : List Nat} (h : SomeU r m 1 v body) (hs : Sto v body A B C) (hr : 0 ≤ r ∧ r < 7) (hd : CD m pw) (hp : -1 ≤ pw) (hv : v < 1099511627776) (hC : C < 1099511627776) : Told r pw (m.beginU r) A B (1 + C) v body := by
  obtain ⟨e, e0, e1, e2⟩ := (hd.ldU (.inl rfl) h.ldd).read hs
  have hne : ¬ m.ldF r 2 = 1099511627776 := by omega
  unfold DM.beginU
  rw [if_neg (by rw [e]; simp), if_neg hne, e0, e1, e2]
  obtain ⟨m', h1 | ⟨h1, h2, h3⟩⟩ := h.healed hd hp
  · obtain ⟨h1, q, hq, hpq, hd1, ht1⟩ := h1
    rw [h1]
    simp only [ne_eq, not_true_eq_false, if_false]
    obtain ⟨k⟩ := ht1.told hr hd1 hq hv (hs.next hC)
    refine ⟨?_⟩
    rcases k with ⟨k1, k2, k3, k4, q2, k5, k6, k7⟩ | ⟨k0, k⟩
    · exact .inl ⟨k1, k2, k3, k4, q2, k5, fun e => k6 (hpq e), k7⟩
    · exact .inr ⟨fun e => k0 (hpq e), k⟩
  · rw [h2]
    exact ⟨.inr ⟨h1, rfl, rfl, rfl, rfl, h3.mono fun n hn => .inl hn⟩⟩
theorem promU_yes {a b c x y : Int} (h : promOk a b c x y = true) : m.promU r a b c x y = m.storeU r x y c := by unfold DM.promU; rw [if_pos h]
theorem promU_no {a b c x y : Int} (h : promOk a b c x y = false) : m.promU r a b c x y = ⟨2, 0, 0, 0, m⟩ := by unfold DM.promU; rw [if_neg (by rw [h]; simp)]
theorem promOk_may {a b c x y : Int} (h : promOk a b c x y = true) : mayU a b c = true ∧ mayU x y c = true ∧ abvB x y a b = true := by
  unfold promOk at h
  rw [Bool.and_eq_true, Bool.and_eq_true] at h
  exact h
end
end Go.Proofs.YtlikhmhomkiadaaDoor

namespace Go.Proofs.YtlikhmhomkiadaaDoor
set_option maxRecDepth 100000
open Go Go.RowKit

theorem cknown_of {w : World} {p : Option Addr} {sz : Nat} (hS : Sized w p sz) (hL : LaidT w) (r g : Int) :
    Calls Tryd.prog 48 #[.pointer p, .int .i64 r, .int .i64 g] w fun e w' => e = .returned (.int .i64 (knownC sz r g)) ∧ Ext w w' := by
  have HS := Lib.hid hS
  have HL := Lib.hid hL
  clear hS hL
  by_cases h0 : sz = 0
  · have HE : Hid (knownC sz r g = 1) := Lib.hid (by unfold knownC; rw [if_pos h0])
    have h1 : ((sz : Int) == 0) = true := by simp [h0]
    clear h0
    go_enter Tryd.func48, Tryd.ntmps48
    go_wp2_with fail
    refine (HS.out _ (Ext.refl _)).mono ?_
    rintro e w1 ⟨rfl, rfl⟩
    go_wp2_with fail
    go_ret
    exact ⟨by rw [HE.out]; rfl, Ext.refl _⟩
  have h1 : ((sz : Int) == 0) = false := by simp; omega
  obtain ⟨E, hE⟩ : ∃ E, knownC sz r g = E := ⟨_, rfl⟩
  have HE := Lib.hid hE
  by_cases h2 : sz < 156
  · have hE2 : knownC sz r g = 2 := by unfold knownC; rw [if_neg h0, if_pos (.inl h2)]
    rw [hE2] at hE
    subst hE
    clear hE2 h0
    go_enter Tryd.func48, Tryd.ntmps48
    go_wp2_with fail
    refine (HS.out _ (Ext.refl _)).mono ?_
    rintro e w1 ⟨rfl, rfl⟩
    go_wp2_with fail
    refine (HS.out _ (Ext.refl _)).mono ?_
    rintro e w1 ⟨rfl, rfl⟩
    go_wp2_with fail
    refine (all_any _ HL.out).mono ?_
    rintro e w1 ⟨rfl, hx⟩
    have HX := Lib.hid hx
    clear hx
    go_wp2_with fail
    go_ret
    exact ⟨by rw [HE.out]; rfl, HX.out⟩
  by_cases hg : g = 1 ∨ g = 2
  · have hg' : ¬ (g ≠ 1 ∧ g ≠ 2) := by omega
    have q : ((g != 1) && (g != 2)) = false := by rcases hg with rfl | rfl <;> rfl
    rcases hg with rfl | rfl
    · clear q hg' 
      by_cases h3 : r < 0
      · have hE2 : knownC sz r 1 = 2 := by unfold knownC; rw [if_neg h0, if_pos (.inr (.inr (.inl h3)))]
        rw [hE2] at hE
        subst hE
        clear hE2 h0
        go_enter Tryd.func48, Tryd.ntmps48
        go_wp2_with fail
        refine (HS.out _ (Ext.refl _)).mono ?_
        rintro e w1 ⟨rfl, rfl⟩
        go_wp2_with fail
        refine (HS.out _ (Ext.refl _)).mono ?_
        rintro e w1 ⟨rfl, rfl⟩
        go_wp2_with fail
        refine (all_any _ HL.out).mono ?_
        rintro e w1 ⟨rfl, hx⟩
        have HX := Lib.hid hx
        clear hx
        go_wp2_with fail
        go_ret
        exact ⟨by rw [HE.out]; rfl, HX.out⟩
      by_cases h4 : 7 ≤ r
      · have hE2 : knownC sz r 1 = 2 := by unfold knownC; rw [if_neg h0, if_pos (.inr (.inr (.inr h4)))]
        rw [hE2] at hE
        subst hE
        clear hE2 h0
        go_enter Tryd.func48, Tryd.ntmps48
        go_wp2_with fail
        refine (HS.out _ (Ext.refl _)).mono ?_
        rintro e w1 ⟨rfl, rfl⟩
        go_wp2_with fail
        refine (HS.out _ (Ext.refl _)).mono ?_
        rintro e w1 ⟨rfl, rfl⟩
        go_wp2_with fail
        refine (all_any _ HL.out).mono ?_
        rintro e w1 ⟨rfl, hx⟩
        have HX := Lib.hid hx
        clear hx
        go_wp2_with fail
        go_ret
        exact ⟨by rw [HE.out]; rfl, HX.out⟩
      · have hE2 : knownC sz r 1 = 0 := by unfold knownC; rw [if_neg h0, if_neg (by omega)]
        rw [hE2] at hE
        subst hE
        clear hE2 h0
        go_enter Tryd.func48, Tryd.ntmps48
        go_wp2_with fail
        refine (HS.out _ (Ext.refl _)).mono ?_
        rintro e w1 ⟨rfl, rfl⟩
        go_wp2_with fail
        refine (HS.out _ (Ext.refl _)).mono ?_
        rintro e w1 ⟨rfl, rfl⟩
        go_wp2_with fail
        refine (all_any _ HL.out).mono ?_
        rintro e w1 ⟨rfl, hx⟩
        have HX := Lib.hid hx
        clear hx
        go_wp2_with fail
        go_ret
        exact ⟨by rw [HE.out]; rfl, HX.out⟩
    · clear q hg' 
      by_cases h3 : r < 0
      · have hE2 : knownC sz r 2 = 2 := by unfold knownC; rw [if_neg h0, if_pos (.inr (.inr (.inl h3)))]
        rw [hE2] at hE
        subst hE
        clear hE2 h0
        go_enter Tryd.func48, Tryd.ntmps48
        go_wp2_with fail
        refine (HS.out _ (Ext.refl _)).mono ?_
        rintro e w1 ⟨rfl, rfl⟩
        go_wp2_with fail
        refine (HS.out _ (Ext.refl _)).mono ?_
        rintro e w1 ⟨rfl, rfl⟩
        go_wp2_with fail
        refine (all_any _ HL.out).mono ?_
        rintro e w1 ⟨rfl, hx⟩
        have HX := Lib.hid hx
        clear hx
        go_wp2_with fail
        go_ret
        exact ⟨by rw [HE.out]; rfl, HX.out⟩
      by_cases h4 : 7 ≤ r
      · have hE2 : knownC sz r 2 = 2 := by unfold knownC; rw [if_neg h0, if_pos (.inr (.inr (.inr h4)))]
        rw [hE2] at hE
        subst hE
        clear hE2 h0
        go_enter Tryd.func48, Tryd.ntmps48
        go_wp2_with fail
        refine (HS.out _ (Ext.refl _)).mono ?_
        rintro e w1 ⟨rfl, rfl⟩
        go_wp2_with fail
        refine (HS.out _ (Ext.refl _)).mono ?_
        rintro e w1 ⟨rfl, rfl⟩
        go_wp2_with fail
        refine (all_any _ HL.out).mono ?_
        rintro e w1 ⟨rfl, hx⟩
        have HX := Lib.hid hx
        clear hx
        go_wp2_with fail
        go_ret
        exact ⟨by rw [HE.out]; rfl, HX.out⟩
      · have hE2 : knownC sz r 2 = 0 := by unfold knownC; rw [if_neg h0, if_neg (by omega)]
        rw [hE2] at hE
        subst hE
        clear hE2 h0
        go_enter Tryd.func48, Tryd.ntmps48
        go_wp2_with fail
        refine (HS.out _ (Ext.refl _)).mono ?_
        rintro e w1 ⟨rfl, rfl⟩
        go_wp2_with fail
        refine (HS.out _ (Ext.refl _)).mono ?_
        rintro e w1 ⟨rfl, rfl⟩
        go_wp2_with fail
        refine (all_any _ HL.out).mono ?_
        rintro e w1 ⟨rfl, hx⟩
        have HX := Lib.hid hx
        clear hx
        go_wp2_with fail
        go_ret
        exact ⟨by rw [HE.out]; rfl, HX.out⟩
  · have g1 : (g != 1) = true := by simp; omega
    have g2 : (g != 2) = true := by simp; omega
    have hE2 : knownC sz r g = 2 := by unfold knownC; rw [if_neg h0, if_pos (.inr (.inl (by omega)))]
    rw [hE2] at hE
    subst hE
    clear hE2 h0 hg
    go_enter Tryd.func48, Tryd.ntmps48
    go_wp2_with fail
    refine (HS.out _ (Ext.refl _)).mono ?_
    rintro e w1 ⟨rfl, rfl⟩
    go_wp2_with fail
    refine (HS.out _ (Ext.refl _)).mono ?_
    rintro e w1 ⟨rfl, rfl⟩
    go_wp2_with fail
    refine (all_any _ HL.out).mono ?_
    rintro e w1 ⟨rfl, hx⟩
    have HX := Lib.hid hx
    clear hx
    go_wp2_with fail
    go_ret
    exact ⟨by rw [HE.out]; rfl, HX.out⟩

theorem other_of (p : Int) (h0 : 0 ≤ p) (h1 : p ≤ 1) (w : World) :
    Calls Tryd.prog 50 #[.int .i64 p] w fun e w' => e = .returned (.int .i64 (otherP p)) ∧ w = w' := by
  have h : p = 0 ∨ p = 1 := by omega
  clear h0 h1
  rcases h with rfl | rfl
  all_goals
    go_enter Tryd.func50, Tryd.ntmps50
    go_wp2_with fail
    go_ret
    exact ⟨rfl, rfl⟩
theorem other0 (w : World) : Calls Tryd.prog 50 #[.int .i64 0] w fun e w' => e = .returned (.int .i64 1) ∧ w = w' := other_of 0 (by omega) (by omega) w
theorem other1 (w : World) : Calls Tryd.prog 50 #[.int .i64 1] w fun e w' => e = .returned (.int .i64 0) ∧ w = w' := other_of 1 (by omega) (by omega) w
end Go.Proofs.YtlikhmhomkiadaaDoor

namespace Go.Proofs.YtlikhmhomkiadaaDoor
set_option maxRecDepth 100000
open Go Go.RowKit

def pairO (s0 a0 b0 c0 d0 e0 s1 a1 b1 c1 d1 e1 : Int) (A0 A1 : Option Addr) (n0 m0 n1 m1 : Nat) : Obj := .cells #[.int .u8 s0, .int .i64 a0, .int .i64 b0, .int .i64 c0, .int .i64 d0, .int .i64 e0, .slice A0 n0 m0, .int .u8 s1, .int .i64 a1, .int .i64 b1, .int .i64 c1, .int .i64 d1, .int .i64 e1, .slice A1 n1 m1] 101
theorem pair_cells {w : World} {g : Nat} {s0 a0 b0 c0 d0 e0 s1 a1 b1 c1 d1 e1 : Int} {A0 A1 : Option Addr} {n0 m0 n1 m1 : Nat} {t : TypeId} (h : w.heap[g]? = some (.cells #[.int .u8 s0, .int .i64 a0, .int .i64 b0, .int .i64 c0, .int .i64 d0, .int .i64 e0, .slice A0 n0 m0, .int .u8 s1, .int .i64 a1, .int .i64 b1, .int .i64 c1, .int .i64 d1, .int .i64 e1, .slice A1 n1 m1] t (0, 0))) :
    w.cell? ⟨g, 0, none⟩ = some (.int .u8 s0) ∧ w.cell? ⟨g, 1, none⟩ = some (.int .i64 a0) ∧ w.cell? ⟨g, 2, none⟩ = some (.int .i64 b0) ∧ w.cell? ⟨g, 3, none⟩ = some (.int .i64 c0) ∧ w.cell? ⟨g, 4, none⟩ = some (.int .i64 d0) ∧ w.cell? ⟨g, 5, none⟩ = some (.int .i64 e0) ∧ w.cell? ⟨g, 6, none⟩ = some (.slice A0 n0 m0) ∧ w.cell? ⟨g, 7, none⟩ = some (.int .u8 s1) ∧ w.cell? ⟨g, 8, none⟩ = some (.int .i64 a1) ∧ w.cell? ⟨g, 9, none⟩ = some (.int .i64 b1) ∧ w.cell? ⟨g, 10, none⟩ = some (.int .i64 c1) ∧ w.cell? ⟨g, 11, none⟩ = some (.int .i64 d1) ∧ w.cell? ⟨g, 12, none⟩ = some (.int .i64 e1) ∧ w.cell? ⟨g, 13, none⟩ = some (.slice A1 n1 m1) :=
  ⟨cell_of_row w g 0 _ _ _ h, cell_of_row w g 1 _ _ _ h, cell_of_row w g 2 _ _ _ h, cell_of_row w g 3 _ _ _ h, cell_of_row w g 4 _ _ _ h, cell_of_row w g 5 _ _ _ h, cell_of_row w g 6 _ _ _ h, cell_of_row w g 7 _ _ _ h, cell_of_row w g 8 _ _ _ h, cell_of_row w g 9 _ _ _ h, cell_of_row w g 10 _ _ _ h, cell_of_row w g 11 _ _ _ h, cell_of_row w g 12 _ _ _ h, cell_of_row w g 13 _ _ _ h⟩
theorem keep_pair {u w' : World} {g : Nat} {s0 a0 b0 c0 d0 e0 s1 a1 b1 c1 d1 e1 : Int} {A0 A1 : Option Addr} {n0 m0 n1 m1 : Nat} {t : TypeId} (k : Hid (Ext u w')) (h : Hid (u.heap[g]? = some (.cells #[.int .u8 s0, .int .i64 a0, .int .i64 b0, .int .i64 c0, .int .i64 d0, .int .i64 e0, .slice A0 n0 m0, .int .u8 s1, .int .i64 a1, .int .i64 b1, .int .i64 c1, .int .i64 d1, .int .i64 e1, .slice A1 n1 m1] t (0, 0)))) :
    w'.cell? ⟨g, 0, none⟩ = some (.int .u8 s0) ∧ w'.cell? ⟨g, 1, none⟩ = some (.int .i64 a0) ∧ w'.cell? ⟨g, 2, none⟩ = some (.int .i64 b0) ∧ w'.cell? ⟨g, 3, none⟩ = some (.int .i64 c0) ∧ w'.cell? ⟨g, 4, none⟩ = some (.int .i64 d0) ∧ w'.cell? ⟨g, 5, none⟩ = some (.int .i64 e0) ∧ w'.cell? ⟨g, 6, none⟩ = some (.slice A0 n0 m0) ∧ w'.cell? ⟨g, 7, none⟩ = some (.int .u8 s1) ∧ w'.cell? ⟨g, 8, none⟩ = some (.int .i64 a1) ∧ w'.cell? ⟨g, 9, none⟩ = some (.int .i64 b1) ∧ w'.cell? ⟨g, 10, none⟩ = some (.int .i64 c1) ∧ w'.cell? ⟨g, 11, none⟩ = some (.int .i64 d1) ∧ w'.cell? ⟨g, 12, none⟩ = some (.int .i64 e1) ∧ w'.cell? ⟨g, 13, none⟩ = some (.slice A1 n1 m1) := pair_cells ((k.out.block g (Array.getElem?_eq_some_iff.1 h.out).1).trans h.out)

set_option maxRecDepth 100000 in
set_option maxHeartbeats 1600000 in
theorem leads0_of (s0 a0 b0 c0 d0 e0 s1 a1 b1 c1 d1 e1 : Int) (A0 A1 : Option Addr) (n0 m0 n1 m1 : Nat) (w : World) :
    Calls Tryd.prog 60 #[.agg #[.int .u8 s0, .int .i64 a0, .int .i64 b0, .int .i64 c0, .int .i64 d0, .int .i64 e0, .slice A0 n0 m0, .int .u8 s1, .int .i64 a1, .int .i64 b1, .int .i64 c1, .int .i64 d1, .int .i64 e1, .slice A1 n1 m1], .int .i64 0] w fun e w' => e = .returned (.bool (decide (s0 = 1) && decide (d1 ≤ d0))) ∧ Ext w w' := by
  have hT := heap_alloc_new w (.cells #[.int .u8 s0, .int .i64 a0, .int .i64 b0, .int .i64 c0, .int .i64 d0, .int .i64 e0, .slice A0 n0 m0, .int .u8 s1, .int .i64 a1, .int .i64 b1, .int .i64 c1, .int .i64 d1, .int .i64 e1, .slice A1 n1 m1] 101)
  have hE := (Ext.refl w).alloc (.cells #[.int .u8 s0, .int .i64 a0, .int .i64 b0, .int .i64 c0, .int .i64 d0, .int .i64 e0, .slice A0 n0 m0, .int .u8 s1, .int .i64 a1, .int .i64 b1, .int .i64 c1, .int .i64 d1, .int .i64 e1, .slice A1 n1 m1] 101)
  obtain ⟨i0, i1, i2, i3, i4, i5, i6, i7, i8, i9, i10, i11, i12, i13⟩ := pair_cells hT
  have HT := Lib.hid hT
  have HE := Lib.hid hE
  clear hT hE
  go_enter Tryd.func60, Tryd.ntmps60
  go_wp2_with fail
  go_region_held3 (fun w' => w'.cell? ⟨w.heap.size, 0, none⟩ = some (.int .u8 s0) ∧ w'.cell? ⟨w.heap.size, 1, none⟩ = some (.int .i64 a0) ∧ w'.cell? ⟨w.heap.size, 2, none⟩ = some (.int .i64 b0) ∧ w'.cell? ⟨w.heap.size, 3, none⟩ = some (.int .i64 c0) ∧ w'.cell? ⟨w.heap.size, 4, none⟩ = some (.int .i64 d0) ∧ w'.cell? ⟨w.heap.size, 5, none⟩ = some (.int .i64 e0) ∧ w'.cell? ⟨w.heap.size, 6, none⟩ = some (.slice A0 n0 m0) ∧ w'.cell? ⟨w.heap.size, 7, none⟩ = some (.int .u8 s1) ∧ w'.cell? ⟨w.heap.size, 8, none⟩ = some (.int .i64 a1) ∧ w'.cell? ⟨w.heap.size, 9, none⟩ = some (.int .i64 b1) ∧ w'.cell? ⟨w.heap.size, 10, none⟩ = some (.int .i64 c1) ∧ w'.cell? ⟨w.heap.size, 11, none⟩ = some (.int .i64 d1) ∧ w'.cell? ⟨w.heap.size, 12, none⟩ = some (.int .i64 e1) ∧ w'.cell? ⟨w.heap.size, 13, none⟩ = some (.slice A1 n1 m1))
    (first | with_reducible exact ⟨i0, i1, i2, i3, i4, i5, i6, i7, i8, i9, i10, i11, i12, i13⟩ | (refine keep_pair (Lib.hid ?_) HT; repeat (first | exact Ext.refl _ | refine Ext.drew ?_ | refine Ext.alloc ?_ _ | refine Ext.setCell ?_ (by simp) _)))
    (first
      | (go_at_call 50; ((with_reducible refine (other0 _).mono ?_); rintro e w1 ⟨rfl, rfl⟩)))
  all_goals
    clear i0 i1 i2 i3 i4 i5 i6 i7 i8 i9 i10 i11 i12 i13
    by_cases hs : s0 = 1
    · subst hs
      go_wp2_with fail
      go_ret
      exact ⟨by simp, by repeat (first | exact Ext.refl _ | refine Ext.drew ?_ | refine Ext.alloc ?_ _)⟩
    · have hs1 : (s0 == 1) = false := by simpa using hs
      have hs2 := decide_eq_false hs
      clear hs
      go_wp2_with fail
      go_ret
      exact ⟨by rw [hs2]; rfl, by repeat (first | exact Ext.refl _ | refine Ext.drew ?_ | refine Ext.alloc ?_ _)⟩

set_option maxRecDepth 100000 in
set_option maxHeartbeats 1600000 in
theorem leads1_of (s0 a0 b0 c0 d0 e0 s1 a1 b1 c1 d1 e1 : Int) (A0 A1 : Option Addr) (n0 m0 n1 m1 : Nat) (w : World) :
    Calls Tryd.prog 60 #[.agg #[.int .u8 s0, .int .i64 a0, .int .i64 b0, .int .i64 c0, .int .i64 d0, .int .i64 e0, .slice A0 n0 m0, .int .u8 s1, .int .i64 a1, .int .i64 b1, .int .i64 c1, .int .i64 d1, .int .i64 e1, .slice A1 n1 m1], .int .i64 1] w fun e w' => e = .returned (.bool (decide (s1 = 1) && decide (d0 ≤ d1))) ∧ Ext w w' := by
  have hT := heap_alloc_new w (.cells #[.int .u8 s0, .int .i64 a0, .int .i64 b0, .int .i64 c0, .int .i64 d0, .int .i64 e0, .slice A0 n0 m0, .int .u8 s1, .int .i64 a1, .int .i64 b1, .int .i64 c1, .int .i64 d1, .int .i64 e1, .slice A1 n1 m1] 101)
  have hE := (Ext.refl w).alloc (.cells #[.int .u8 s0, .int .i64 a0, .int .i64 b0, .int .i64 c0, .int .i64 d0, .int .i64 e0, .slice A0 n0 m0, .int .u8 s1, .int .i64 a1, .int .i64 b1, .int .i64 c1, .int .i64 d1, .int .i64 e1, .slice A1 n1 m1] 101)
  obtain ⟨i0, i1, i2, i3, i4, i5, i6, i7, i8, i9, i10, i11, i12, i13⟩ := pair_cells hT
  have HT := Lib.hid hT
  have HE := Lib.hid hE
  clear hT hE
  go_enter Tryd.func60, Tryd.ntmps60
  go_wp2_with fail
  go_region_held3 (fun w' => w'.cell? ⟨w.heap.size, 0, none⟩ = some (.int .u8 s0) ∧ w'.cell? ⟨w.heap.size, 1, none⟩ = some (.int .i64 a0) ∧ w'.cell? ⟨w.heap.size, 2, none⟩ = some (.int .i64 b0) ∧ w'.cell? ⟨w.heap.size, 3, none⟩ = some (.int .i64 c0) ∧ w'.cell? ⟨w.heap.size, 4, none⟩ = some (.int .i64 d0) ∧ w'.cell? ⟨w.heap.size, 5, none⟩ = some (.int .i64 e0) ∧ w'.cell? ⟨w.heap.size, 6, none⟩ = some (.slice A0 n0 m0) ∧ w'.cell? ⟨w.heap.size, 7, none⟩ = some (.int .u8 s1) ∧ w'.cell? ⟨w.heap.size, 8, none⟩ = some (.int .i64 a1) ∧ w'.cell? ⟨w.heap.size, 9, none⟩ = some (.int .i64 b1) ∧ w'.cell? ⟨w.heap.size, 10, none⟩ = some (.int .i64 c1) ∧ w'.cell? ⟨w.heap.size, 11, none⟩ = some (.int .i64 d1) ∧ w'.cell? ⟨w.heap.size, 12, none⟩ = some (.int .i64 e1) ∧ w'.cell? ⟨w.heap.size, 13, none⟩ = some (.slice A1 n1 m1))
    (first | with_reducible exact ⟨i0, i1, i2, i3, i4, i5, i6, i7, i8, i9, i10, i11, i12, i13⟩ | (refine keep_pair (Lib.hid ?_) HT; repeat (first | exact Ext.refl _ | refine Ext.drew ?_ | refine Ext.alloc ?_ _ | refine Ext.setCell ?_ (by simp) _)))
    (first
      | (go_at_call 50; ((with_reducible refine (other1 _).mono ?_); rintro e w1 ⟨rfl, rfl⟩)))
  all_goals
    clear i0 i1 i2 i3 i4 i5 i6 i7 i8 i9 i10 i11 i12 i13
    by_cases hs : s1 = 1
    · subst hs
      go_wp2_with fail
      go_ret
      exact ⟨by simp, by repeat (first | exact Ext.refl _ | refine Ext.drew ?_ | refine Ext.alloc ?_ _)⟩
    · have hs1 : (s1 == 1) = false := by simpa using hs
      have hs2 := decide_eq_false hs
      clear hs
      go_wp2_with fail
      go_ret
      exact ⟨by rw [hs2]; rfl, by repeat (first | exact Ext.refl _ | refine Ext.drew ?_ | refine Ext.alloc ?_ _)⟩

end Go.Proofs.YtlikhmhomkiadaaDoor
