/-
  Plain facts for CellEither and CellHealed: a cell behind a power that goes amid a Store, and any crash; what Heal leaves.
  Plain facts on metadata on a disk: what Begin and Promise answer, and what they leave, with power or without.
  The contracts of cell's small functions: known, other, leads, isBlank, which, repeats.
  The contracts of leads and isBlank, as method values; of which over them; of repeats.
-/
import Derived.Test.YtlikhmhomkiadaaGreatDoorM08
import Derived.Test.YtlikhmhomkiadaaGreatDoorM22
import Derived.Test.YtlikhmhomkiadaaGreatDoorM23
import Derived.Test.YtlikhmhomkiadaaGreatDoorM28
import Derived.Test.YtlikhmhomkiadaaGreatDoorM29
import Derived.LoopN
import Derived.Deep.RegionHeld3
namespace Go.Proofs.YtlikhmhomkiadaaGreatDoor
set_option maxRecDepth 100000
variable {r : Int}

/-- Both copies, or the one that leads. -/
def SomeU (r : Int) (m : DM) (g : Int) (v : Nat) (b : List Nat) : Prop :=
  (v = 0 ∧ b = [] ∧ m.hold (secV g 0) = z64 ∧ m.hold (secV g 1) = z64) ∨ (1 ≤ v ∧ ∃ c, CopU r (m.hold (secV g 0)) g 0 v c b ∧ mfl (m.hold (secV g 1)) r g 1 3 ≤ v ∧ (mfl (m.hold (secV g 1)) r g 1 3 = v → mbl (m.hold (secV g 1)) r g 1 = b)) ∨ (1 ≤ v ∧ ∃ c, CopU r (m.hold (secV g 1)) g 1 v c b ∧ mfl (m.hold (secV g 0)) r g 0 3 < v)
theorem SomeU.ldd {m : DM} {g : Int} {v : Nat} {b : List Nat} (h : SomeU r m g v b) : LddU r g (m.hold (secV g 0)) (m.hold (secV g 1)) 0 v b := by
  rcases h with ⟨rfl, rfl, h0, h1⟩ | ⟨_, c, h0, h1, _⟩ | ⟨_, c, h1, h0⟩
  · rw [h0, h1]
    exact ldd_blankU (z64_blank r g 0) (z64_blank r g 1)
  · exact ldd0U h0 h1
  · exact ldd1U h1 (.inl h0)
theorem two_someU {m : DM} {g : Int} {v : Nat} {b : List Nat} (h : TwoU r m g v b) : SomeU r m g v b := by
  rcases h with ⟨rfl, rfl, h0, h1⟩ | ⟨hv, c, d, h0, h1⟩
  · exact .inl ⟨rfl, rfl, h0, h1⟩
  · exact .inr (.inl ⟨hv, c, h0, by rw [h1.v3]; omega, fun _ => h1.bd⟩)
theorem z64_vU (g p : Int) (k : Nat) : mfl z64 r g p k = 0 := no_copy (by rw [z64_blank]; omega) k
/-- Behind a Store amid which the power goes, a crash and a start. -/
theorem TwoU.power {m : DM} {k : Nat} {g : Int} {v : Nat} {b : List Nat} (hr : 0 ≤ r ∧ r < 7) (hd : CD m (k : Int)) (hg : g = 1 ∨ g = 2) (h : TwoU r m g v b) (hv : v < 1099511627776) {c : Nat} (hc : 1 ≤ c ∧ c ≤ 1099511627776) {body : List Nat} (hn : body.length ≤ 43) (hb : ∀ x ∈ body, x < 256) (keep : List Bool) :
    ((m.store r g (c : Int) body).1 = if k < 4 then 5 else 0) ∧ ((m.store r g (c : Int) body).2.crash keep).1 = 0 ∧ ((m.store r g (c : Int) body).2.crash keep).2.start.1 = 0 ∧ CD ((m.store r g (c : Int) body).2.crash keep).2.start.2 (-1) ∧
      (SomeU r ((m.store r g (c : Int) body).2.crash keep).2.start.2 g v b ∨ SomeU r ((m.store r g (c : Int) body).2.crash keep).2.start.2 g (v + 1) body) ∧ (4 ≤ k → TwoU r ((m.store r g (c : Int) body).2.crash keep).2.start.2 g (v + 1) body) := by
  obtain ⟨f, o, hf, ho, f0, f1, hs⟩ := h.store hd hg hv hc hn
  have ho1 : o ≤ 1 := by omega
  obtain ⟨r1, r2, r3, r4, r5, r6⟩ := hd.two_power (a := secV g f) (b := secV g o) (secV_lt hg hf) (secV_lt hg ho1) (sealC_sect (may_newU hr hg hf hv hc) hn hb) (sealC_sect (may_newU hr hg ho1 hv hc) hn hb) keep
  rw [hs]
  have n0 := cop_sealU (may_newU hr hg (p := 0) (by omega) hv hc) hn
  have n1 := cop_sealU (may_newU hr hg (p := 1) (by omega) hv hc) hn
  have both : ∀ m2 : DM, (∀ t, m2.hold t = if t = secV g o then sealC r g o (v + 1) c body else if t = secV g f then sealC r g f (v + 1) c body else m.hold t) → TwoU r m2 g (v + 1) body := fun m2 hh => by
    refine .inr ⟨by omega, c, c, ?_, ?_⟩
    · have hff : f = 0 ∨ f = 1 := by omega
      rcases hff with rfl | rfl
      · obtain rfl : o = 1 := by omega
        rw [hh, if_neg secV_ne, if_pos rfl]; exact n0
      · obtain rfl : o = 0 := by omega
        rw [hh, if_pos rfl]; exact n0
    · have hff : f = 0 ∨ f = 1 := by omega
      rcases hff with rfl | rfl
      · obtain rfl : o = 1 := by omega
        rw [hh, if_pos rfl]; exact n1
      · obtain rfl : o = 0 := by omega
        rw [hh, if_neg (fun e => secV_ne e.symm), if_pos rfl]; exact n1
  refine ⟨r1, r2, r3, r4, ?_, fun hk => both _ (r6 hk)⟩
  cases r5 with
  | none hh => exact .inl (two_someU (h.of_eq (hh _) (hh _)))
  | both hh => exact .inr (two_someU (both _ hh))
  | one hh =>
    right
    rcases h with ⟨rfl, rfl, h0, h1⟩ | ⟨hv1, p, q, h0, h1⟩
    · obtain rfl := f0 rfl
      refine .inr (.inl ⟨by omega, c, by rw [hh, if_pos rfl]; exact n0, ?_, fun hq => ?_⟩)
      · rw [hh, if_neg (fun e => secV_ne e.symm), h1, z64_vU]; omega
      · rw [hh, if_neg (fun e => secV_ne e.symm), h1, z64_vU] at hq; omega
    · obtain rfl := f1 hv1
      refine .inr (.inr ⟨by omega, c, by rw [hh, if_pos rfl]; exact n1, ?_⟩)
      rw [hh, if_neg secV_ne, h0.v3]
      omega
/-- What Heal does: nothing, or a put behind which both copies are the same. -/
def HealU (r : Int) (m : DM) (g : Int) (v : Nat) (b : List Nat) : Prop := (m.heal r g = (0, m) ∧ TwoU r m g v b) ∨ ∃ (s : Nat) (L : List Nat), s < 156 ∧ Sect L ∧ m.heal r g = m.putC (s : Int) L ∧ ∀ m' : DM, (∀ t, m'.hold t = if t = s then L else m.hold t) → TwoU r m' g v b
theorem heal0U {m : DM} {g : Int} {v c : Nat} {b : List Nat} {pw : Int} (hd : CD m pw) (hg : g = 1 ∨ g = 2) (hv : 1 ≤ v) (h0 : CopU r (m.hold (secV g 0)) g 0 v c b) (h1 : mfl (m.hold (secV g 1)) r g 1 3 ≤ v) : HealU r m g v b := by
  have ha := at0U h0 h1
  have hl := hd.ldU hg (ldd0U h0 h1)
  have hx : m.hold (secV g 0) = [] ∨ Sect (m.hold (secV g 0)) := by rw [← hd.cb0 hg]; exact read_sect hd.b.ok _
  obtain ⟨_, _, _, hmay, hlen⟩ := mine_copy hx h0.st
  rw [h0.v3, h0.c4] at hmay
  rw [h0.bd] at hlen
  have hbl : ∀ z ∈ b, z < 256 := by
    rw [← h0.bd]
    rcases hx with e | e
    · rw [e]; intro z hz; unfold mbl obl bodyOf at hz; (repeat' split at hz) <;> simp at hz
    · intro z hz
      unfold mbl obl bodyOf at hz
      (repeat' split at hz) <;> first | (simp at hz; done) | exact e.2 z (List.mem_of_mem_drop (List.mem_of_mem_take hz))
  unfold HealU DM.heal
  rw [if_neg (by rw [hl.e]; simp), hd.cb0 hg, hd.cb1 hg, ha]
  by_cases hs : sameC r g (m.hold (secV g 0)) (m.hold (secV g 1)) = true
  · rw [if_pos (.inr hs)]
    refine .inl ⟨rfl, .inr ⟨hv, c, mfl (m.hold (secV g 1)) r g 1 4, h0, ?_⟩⟩
    unfold sameC at hs
    rw [if_pos ha, Bool.and_eq_true, Bool.and_eq_true] at hs
    exact ⟨of_decide_eq_true hs.1, (of_decide_eq_true hs.2.1).trans h0.v3, rfl, (of_decide_eq_true hs.2.2).trans h0.bd⟩
  · rw [if_neg (fun h => h.elim (fun h => by cases h) hs)]
    have hf : ∀ k, cellF r g (m.hold (secV g 0)) (m.hold (secV g 1)) k = mfl (m.hold (secV g 0)) r g 0 k := fun k => by unfold cellF; rw [if_pos ha]
    have hb2 : cellB r g (m.hold (secV g 0)) (m.hold (secV g 1)) = b := by unfold cellB; rw [if_pos ha, h0.bd]
    rw [hf, hf, hb2, h0.v3, h0.c4, show firstS g (otherP 0) = (secV g 1 : Nat) from secV_first hg (p := 1) (by omega)]
    have hm1 : mayB r g ((1 : Nat) : Int) (v : Int) (c : Int) = true := may_other hg (.inr rfl) hmay
    exact .inr ⟨secV g 1, sealC r g (otherP 0) v c b, secV_lt hg (by omega), sealC_sect hm1 hlen hbl, rfl, fun m' k2 => .inr ⟨hv, c, c, by rw [k2, if_neg secV_ne]; exact h0, by rw [k2, if_pos rfl]; exact cop_sealU hm1 hlen⟩⟩
theorem heal1U {m : DM} {g : Int} {v c : Nat} {b : List Nat} {pw : Int} (hd : CD m pw) (hg : g = 1 ∨ g = 2) (hv : 1 ≤ v) (h1 : CopU r (m.hold (secV g 1)) g 1 v c b) (h0 : mfl (m.hold (secV g 0)) r g 0 3 < v) : HealU r m g v b := by
  have ha := at1U h1 (.inl h0)
  have hl := hd.ldU hg (ldd1U h1 (.inl h0))
  have hx : m.hold (secV g 1) = [] ∨ Sect (m.hold (secV g 1)) := by rw [← hd.cb1 hg]; exact read_sect hd.b.ok _
  obtain ⟨_, _, _, hmay, hlen⟩ := mine_copy hx h1.st
  rw [h1.v3, h1.c4] at hmay
  rw [h1.bd] at hlen
  have hbl : ∀ z ∈ b, z < 256 := by
    rw [← h1.bd]
    rcases hx with e | e
    · rw [e]; intro z hz; unfold mbl obl bodyOf at hz; (repeat' split at hz) <;> simp at hz
    · intro z hz
      unfold mbl obl bodyOf at hz
      (repeat' split at hz) <;> first | (simp at hz; done) | exact e.2 z (List.mem_of_mem_drop (List.mem_of_mem_take hz))
  unfold HealU DM.heal
  rw [if_neg (by rw [hl.e]; simp), hd.cb0 hg, hd.cb1 hg, ha]
  have hs : sameC r g (m.hold (secV g 0)) (m.hold (secV g 1)) = false := by
    unfold sameC
    rw [if_neg (by rw [ha]; omega), decide_eq_false (p := mfl (m.hold (secV g 0)) r g 0 3 = mfl (m.hold (secV g 1)) r g 1 3) (by rw [h1.v3]; omega)]
    simp
  rw [if_neg (fun h => h.elim (fun h => by cases h) (fun h => by rw [hs] at h; cases h))]
  have hf : ∀ k, cellF r g (m.hold (secV g 0)) (m.hold (secV g 1)) k = mfl (m.hold (secV g 1)) r g 1 k := fun k => by unfold cellF; rw [if_neg (by rw [ha]; omega), if_pos ha]
  have hb2 : cellB r g (m.hold (secV g 0)) (m.hold (secV g 1)) = b := by unfold cellB; rw [if_neg (by rw [ha]; omega), if_pos ha, h1.bd]
  rw [hf, hf, hb2, h1.v3, h1.c4, show firstS g (otherP 1) = (secV g 0 : Nat) from secV_first hg (p := 0) (by omega)]
  have hm1 : mayB r g ((0 : Nat) : Int) (v : Int) (c : Int) = true := may_other hg (.inl rfl) hmay
  exact .inr ⟨secV g 0, sealC r g (otherP 1) v c b, secV_lt hg (by omega), sealC_sect hm1 hlen hbl, rfl, fun m' k2 => .inr ⟨hv, c, c, by rw [k2, if_pos rfl]; exact cop_sealU hm1 hlen, by rw [k2, if_neg (fun e => secV_ne e.symm)]; exact h1⟩⟩
theorem SomeU.heal {m : DM} {g : Int} {v : Nat} {b : List Nat} {pw : Int} (hd : CD m pw) (hg : g = 1 ∨ g = 2) (h : SomeU r m g v b) : HealU r m g v b := by
  rcases h with ⟨rfl, rfl, h0, h1⟩ | ⟨hv, c, h0, h1, _⟩ | ⟨hv, c, h1, h0⟩
  · have ha := atmU (r := r) (g := g) (x := z64) (y := z64) (by rw [z64_blank]; omega) (by rw [z64_blank]; omega)
    have hl := hd.ldU (v := 0) (b := []) hg (by rw [h0, h1]; exact ldd_blankU (z64_blank r g 0) (z64_blank r g 1))
    refine .inl ⟨?_, .inl ⟨rfl, rfl, h0, h1⟩⟩
    unfold DM.heal
    rw [if_neg (by rw [hl.e]; simp), hd.cb0 hg, hd.cb1 hg, h0, h1, if_pos (.inl ha)]
  · exact heal0U hd hg hv h0 h1
  · exact heal1U hd hg hv h1 h0
end Go.Proofs.YtlikhmhomkiadaaGreatDoor

namespace Go.Proofs.YtlikhmhomkiadaaGreatDoor
set_option maxRecDepth 100000

/-- What is loaded: the error, and the numbers. -/
def DM.ldE (m : DM) (r : Int) : Int := if m.loadE r 1 ≠ 0 then m.loadE r 1 else if m.loadV r 1 = 0 then 0 else uE (m.loadB r 1)
def DM.ldF (m : DM) (r : Int) (k : Nat) : Nat := if m.loadE r 1 ≠ 0 then 0 else if m.loadV r 1 = 0 then 0 else uF (m.loadB r 1) k
/-- What a call answers, and leaves. -/
structure UO where
  e : Int
  a : Int
  b : Int
  c : Int
  m : DM
def DM.storeU (m : DM) (r a b c : Int) : UO :=
  if (m.store r 1 c (uL a b c)).1 ≠ 0 then ⟨(m.store r 1 c (uL a b c)).1, 0, 0, 0, (m.store r 1 c (uL a b c)).2⟩ else ⟨0, a, b, c, (m.store r 1 c (uL a b c)).2⟩
def DM.beginU (m : DM) (r : Int) : UO :=
  if m.ldE r ≠ 0 then ⟨m.ldE r, 0, 0, 0, m⟩ else if m.ldF r 2 = 1099511627776 then ⟨4, 0, 0, 0, m⟩ else
    if (m.heal r 1).1 ≠ 0 then ⟨(m.heal r 1).1, 0, 0, 0, (m.heal r 1).2⟩ else (m.heal r 1).2.storeU r (m.ldF r 0) (m.ldF r 1) (1 + (m.ldF r 2 : Int))
def DM.promU (m : DM) (r a b c x y : Int) : UO := if promOk a b c x y = true then m.storeU r x y c else ⟨2, 0, 0, 0, m⟩

theorem putC_size (m : DM) (s : Int) (L : List Nat) : (m.putC s L).2.size = m.size := by
  have hw : (m.write s L).2.size = m.size := by unfold DM.write DM.size; (repeat' split) <;> rfl
  unfold DM.putC
  split
  · exact hw
  · rw [← hw]
    generalize (m.write s L).2 = m1
    unfold DM.flush
    (repeat' split)
    · rfl
    · rfl
    · show (DM.comes _ _).size = _
      rw [DM.comes_size]
      rfl
theorem putU_waits (m : DM) (s : Int) (L : List Nat) : (m.putC s L).2.waits.length ≤ m.waits.length + 1 := by
  have hw : (m.write s L).2.waits.length ≤ m.waits.length + 1 := by
    unfold DM.write
    (repeat' split) <;> simp
  unfold DM.putC
  split
  · exact hw
  · refine Nat.le_trans ?_ hw
    generalize (m.write s L).2 = m1
    unfold DM.flush
    (repeat' split) <;> simp
theorem heal_size (m : DM) (r g : Int) : (m.heal r g).2.size = m.size := by
  unfold DM.heal
  (repeat' split)
  · rfl
  · rfl
  · exact putC_size _ _ _
theorem heal_waits (m : DM) (r g : Int) : (m.heal r g).2.waits.length ≤ m.waits.length + 1 := by
  unfold DM.heal
  (repeat' split)
  · simp
  · simp
  · exact putU_waits _ _ _

/-- What holds behind any crash and a start. -/
def After (m : DM) (P : DM → Prop) : Prop := ∀ keep : List Bool, (m.crash keep).1 = 0 ∧ (m.crash keep).2.start.1 = 0 ∧ CD (m.crash keep).2.start.2 (-1) ∧ P (m.crash keep).2.start.2
theorem After.mono {m : DM} {P Q : DM → Prop} (h : After m P) (k : ∀ n, P n → Q n) : After m Q := fun keep => by
  obtain ⟨h1, h2, h3, h4⟩ := h keep
  exact ⟨h1, h2, h3, k _ h4⟩
section
variable {m : DM} {pw : Int} {r : Int} {v : Nat} {b : List Nat}
theorem SomeU.of_eq {m' : DM} {g : Int} (h : SomeU r m g v b) (h0 : m'.hold (secV g 0) = m.hold (secV g 0)) (h1 : m'.hold (secV g 1) = m.hold (secV g 1)) : SomeU r m' g v b := by
  unfold SomeU
  rw [h0, h1]
  exact h
/-- What is stored, told by version and body: the numbers. -/
def Sto (v : Nat) (body : List Nat) (A B C : Int) : Prop := (v = 0 ∧ A = 0 ∧ B = 0 ∧ C = 0) ∨ (1 ≤ v ∧ mayU A B C = true ∧ body = uL A B C)
theorem Sto.next {A B C : Int} {body : List Nat} (h : Sto v body A B C) (hC : C < 1099511627776) : mayU A B (1 + C) = true := by
  rcases h with ⟨_, rfl, rfl, rfl⟩ | ⟨_, h, _⟩
  · decide
  · rw [mayU_iff] at h ⊢
    omega
theorem Sto.of {A B C : Int} (h : mayU A B C = true) : Sto (v + 1) (uL A B C) A B C := .inr ⟨by omega, h, rfl⟩
theorem LdU.read {A B C : Int} {body : List Nat} (h : LdU r m 1 v body) (hs : Sto v body A B C) : m.ldE r = 0 ∧ (m.ldF r 0 : Int) = A ∧ (m.ldF r 1 : Int) = B ∧ (m.ldF r 2 : Int) = C := by
  unfold DM.ldE DM.ldF
  rw [h.e, h.v, h.b]
  simp only [ne_eq, not_true_eq_false, if_false]
  rcases hs with ⟨rfl, rfl, rfl, rfl⟩ | ⟨hv, hm, rfl⟩
  · simp
  · have h0 : ¬ v = 0 := by omega
    obtain ⟨e, f0, f1, f2⟩ := uBack hm
    simp only [if_neg h0]
    exact ⟨uE_yes e, f0, f1, f2⟩
end
end Go.Proofs.YtlikhmhomkiadaaGreatDoor

namespace Go.Proofs.YtlikhmhomkiadaaGreatDoor
set_option maxRecDepth 100000
open Go Go.RowKit

theorem cknown_of {w : World} {p : Option Addr} {sz : Nat} (hS : Sized w p sz) (hL : LaidT w) (r g : Int) :
    Calls Tryz.prog 62 #[.pointer p, .int .i64 r, .int .i64 g] w fun e w' => e = .returned (.int .i64 (knownC sz r g)) ∧ Ext w w' := by
  have HS := Lib.hid hS
  have HL := Lib.hid hL
  clear hS hL
  by_cases h0 : sz = 0
  · have HE : Hid (knownC sz r g = 1) := Lib.hid (by unfold knownC; rw [if_pos h0])
    have h1 : ((sz : Int) == 0) = true := by simp [h0]
    clear h0
    go_enter Tryz.func62, Tryz.ntmps62
    go_wp2_with fail
    refine (HS.out _ (Ext.refl _)).mono ?_
    rintro e w1 ⟨rfl, rfl⟩
    go_wp2_with fail
    go_ret
    exact ⟨by rw [HE.out]; rfl, Ext.refl _⟩
  have h1 : ((sz : Int) == 0) = false := by simp; omega
  obtain ⟨E, hE⟩ : ∃ E, knownC sz r g = E := ⟨_, rfl⟩
  have HE := Lib.hid hE
  by_cases h2 : sz < 156
  · have hE2 : knownC sz r g = 2 := by unfold knownC; rw [if_neg h0, if_pos (.inl h2)]
    rw [hE2] at hE
    subst hE
    clear hE2 h0
    go_enter Tryz.func62, Tryz.ntmps62
    go_wp2_with fail
    refine (HS.out _ (Ext.refl _)).mono ?_
    rintro e w1 ⟨rfl, rfl⟩
    go_wp2_with fail
    refine (HS.out _ (Ext.refl _)).mono ?_
    rintro e w1 ⟨rfl, rfl⟩
    go_wp2_with fail
    refine (all_any _ HL.out).mono ?_
    rintro e w1 ⟨rfl, hx⟩
    have HX := Lib.hid hx
    clear hx
    go_wp2_with fail
    go_ret
    exact ⟨by rw [HE.out]; rfl, HX.out⟩
  by_cases hg : g = 1 ∨ g = 2
  · have hg' : ¬ (g ≠ 1 ∧ g ≠ 2) := by omega
    have q : ((g != 1) && (g != 2)) = false := by rcases hg with rfl | rfl <;> rfl
    rcases hg with rfl | rfl
    · clear q hg' 
      by_cases h3 : r < 0
      · have hE2 : knownC sz r 1 = 2 := by unfold knownC; rw [if_neg h0, if_pos (.inr (.inr (.inl h3)))]
        rw [hE2] at hE
        subst hE
        clear hE2 h0
        go_enter Tryz.func62, Tryz.ntmps62
        go_wp2_with fail
        refine (HS.out _ (Ext.refl _)).mono ?_
        rintro e w1 ⟨rfl, rfl⟩
        go_wp2_with fail
        refine (HS.out _ (Ext.refl _)).mono ?_
        rintro e w1 ⟨rfl, rfl⟩
        go_wp2_with fail
        refine (all_any _ HL.out).mono ?_
        rintro e w1 ⟨rfl, hx⟩
        have HX := Lib.hid hx
        clear hx
        go_wp2_with fail
        go_ret
        exact ⟨by rw [HE.out]; rfl, HX.out⟩
      by_cases h4 : 7 ≤ r
      · have hE2 : knownC sz r 1 = 2 := by unfold knownC; rw [if_neg h0, if_pos (.inr (.inr (.inr h4)))]
        rw [hE2] at hE
        subst hE
        clear hE2 h0
        go_enter Tryz.func62, Tryz.ntmps62
        go_wp2_with fail
        refine (HS.out _ (Ext.refl _)).mono ?_
        rintro e w1 ⟨rfl, rfl⟩
        go_wp2_with fail
        refine (HS.out _ (Ext.refl _)).mono ?_
        rintro e w1 ⟨rfl, rfl⟩
        go_wp2_with fail
        refine (all_any _ HL.out).mono ?_
        rintro e w1 ⟨rfl, hx⟩
        have HX := Lib.hid hx
        clear hx
        go_wp2_with fail
        go_ret
        exact ⟨by rw [HE.out]; rfl, HX.out⟩
      · have hE2 : knownC sz r 1 = 0 := by unfold knownC; rw [if_neg h0, if_neg (by omega)]
        rw [hE2] at hE
        subst hE
        clear hE2 h0
        go_enter Tryz.func62, Tryz.ntmps62
        go_wp2_with fail
        refine (HS.out _ (Ext.refl _)).mono ?_
        rintro e w1 ⟨rfl, rfl⟩
        go_wp2_with fail
        refine (HS.out _ (Ext.refl _)).mono ?_
        rintro e w1 ⟨rfl, rfl⟩
        go_wp2_with fail
        refine (all_any _ HL.out).mono ?_
        rintro e w1 ⟨rfl, hx⟩
        have HX := Lib.hid hx
        clear hx
        go_wp2_with fail
        go_ret
        exact ⟨by rw [HE.out]; rfl, HX.out⟩
    · clear q hg' 
      by_cases h3 : r < 0
      · have hE2 : knownC sz r 2 = 2 := by unfold knownC; rw [if_neg h0, if_pos (.inr (.inr (.inl h3)))]
        rw [hE2] at hE
        subst hE
        clear hE2 h0
        go_enter Tryz.func62, Tryz.ntmps62
        go_wp2_with fail
        refine (HS.out _ (Ext.refl _)).mono ?_
        rintro e w1 ⟨rfl, rfl⟩
        go_wp2_with fail
        refine (HS.out _ (Ext.refl _)).mono ?_
        rintro e w1 ⟨rfl, rfl⟩
        go_wp2_with fail
        refine (all_any _ HL.out).mono ?_
        rintro e w1 ⟨rfl, hx⟩
        have HX := Lib.hid hx
        clear hx
        go_wp2_with fail
        go_ret
        exact ⟨by rw [HE.out]; rfl, HX.out⟩
      by_cases h4 : 7 ≤ r
      · have hE2 : knownC sz r 2 = 2 := by unfold knownC; rw [if_neg h0, if_pos (.inr (.inr (.inr h4)))]
        rw [hE2] at hE
        subst hE
        clear hE2 h0
        go_enter Tryz.func62, Tryz.ntmps62
        go_wp2_with fail
        refine (HS.out _ (Ext.refl _)).mono ?_
        rintro e w1 ⟨rfl, rfl⟩
        go_wp2_with fail
        refine (HS.out _ (Ext.refl _)).mono ?_
        rintro e w1 ⟨rfl, rfl⟩
        go_wp2_with fail
        refine (all_any _ HL.out).mono ?_
        rintro e w1 ⟨rfl, hx⟩
        have HX := Lib.hid hx
        clear hx
        go_wp2_with fail
        go_ret
        exact ⟨by rw [HE.out]; rfl, HX.out⟩
      · have hE2 : knownC sz r 2 = 0 := by unfold knownC; rw [if_neg h0, if_neg (by omega)]
        rw [hE2] at hE
        subst hE
        clear hE2 h0
        go_enter Tryz.func62, Tryz.ntmps62
        go_wp2_with fail
        refine (HS.out _ (Ext.refl _)).mono ?_
        rintro e w1 ⟨rfl, rfl⟩
        go_wp2_with fail
        refine (HS.out _ (Ext.refl _)).mono ?_
        rintro e w1 ⟨rfl, rfl⟩
        go_wp2_with fail
        refine (all_any _ HL.out).mono ?_
        rintro e w1 ⟨rfl, hx⟩
        have HX := Lib.hid hx
        clear hx
        go_wp2_with fail
        go_ret
        exact ⟨by rw [HE.out]; rfl, HX.out⟩
  · have g1 : (g != 1) = true := by simp; omega
    have g2 : (g != 2) = true := by simp; omega
    have hE2 : knownC sz r g = 2 := by unfold knownC; rw [if_neg h0, if_pos (.inr (.inl (by omega)))]
    rw [hE2] at hE
    subst hE
    clear hE2 h0 hg
    go_enter Tryz.func62, Tryz.ntmps62
    go_wp2_with fail
    refine (HS.out _ (Ext.refl _)).mono ?_
    rintro e w1 ⟨rfl, rfl⟩
    go_wp2_with fail
    refine (HS.out _ (Ext.refl _)).mono ?_
    rintro e w1 ⟨rfl, rfl⟩
    go_wp2_with fail
    refine (all_any _ HL.out).mono ?_
    rintro e w1 ⟨rfl, hx⟩
    have HX := Lib.hid hx
    clear hx
    go_wp2_with fail
    go_ret
    exact ⟨by rw [HE.out]; rfl, HX.out⟩

theorem other_of (p : Int) (h0 : 0 ≤ p) (h1 : p ≤ 1) (w : World) :
    Calls Tryz.prog 65 #[.int .i64 p] w fun e w' => e = .returned (.int .i64 (otherP p)) ∧ w = w' := by
  have h : p = 0 ∨ p = 1 := by omega
  clear h0 h1
  rcases h with rfl | rfl
  all_goals
    go_enter Tryz.func65, Tryz.ntmps65
    go_wp2_with fail
    go_ret
    exact ⟨rfl, rfl⟩
theorem other0 (w : World) : Calls Tryz.prog 65 #[.int .i64 0] w fun e w' => e = .returned (.int .i64 1) ∧ w = w' := other_of 0 (by omega) (by omega) w
theorem other1 (w : World) : Calls Tryz.prog 65 #[.int .i64 1] w fun e w' => e = .returned (.int .i64 0) ∧ w = w' := other_of 1 (by omega) (by omega) w
end Go.Proofs.YtlikhmhomkiadaaGreatDoor

namespace Go.Proofs.YtlikhmhomkiadaaGreatDoor
set_option maxRecDepth 100000
open Go Go.RowKit

theorem pair_cells {w : World} {g : Nat} {s0 a0 b0 c0 d0 e0 s1 a1 b1 c1 d1 e1 : Int} {A0 A1 : Option Addr} {n0 m0 n1 m1 : Nat} {t : TypeId} (h : w.heap[g]? = some (.cells #[.int .u8 s0, .int .i64 a0, .int .i64 b0, .int .i64 c0, .int .i64 d0, .int .i64 e0, .slice A0 n0 m0, .int .u8 s1, .int .i64 a1, .int .i64 b1, .int .i64 c1, .int .i64 d1, .int .i64 e1, .slice A1 n1 m1] t (0, 0))) :
    w.cell? ⟨g, 0, none⟩ = some (.int .u8 s0) ∧ w.cell? ⟨g, 1, none⟩ = some (.int .i64 a0) ∧ w.cell? ⟨g, 2, none⟩ = some (.int .i64 b0) ∧ w.cell? ⟨g, 3, none⟩ = some (.int .i64 c0) ∧ w.cell? ⟨g, 4, none⟩ = some (.int .i64 d0) ∧ w.cell? ⟨g, 5, none⟩ = some (.int .i64 e0) ∧ w.cell? ⟨g, 6, none⟩ = some (.slice A0 n0 m0) ∧ w.cell? ⟨g, 7, none⟩ = some (.int .u8 s1) ∧ w.cell? ⟨g, 8, none⟩ = some (.int .i64 a1) ∧ w.cell? ⟨g, 9, none⟩ = some (.int .i64 b1) ∧ w.cell? ⟨g, 10, none⟩ = some (.int .i64 c1) ∧ w.cell? ⟨g, 11, none⟩ = some (.int .i64 d1) ∧ w.cell? ⟨g, 12, none⟩ = some (.int .i64 e1) ∧ w.cell? ⟨g, 13, none⟩ = some (.slice A1 n1 m1) :=
  ⟨cell_of_row w g 0 _ _ _ h, cell_of_row w g 1 _ _ _ h, cell_of_row w g 2 _ _ _ h, cell_of_row w g 3 _ _ _ h, cell_of_row w g 4 _ _ _ h, cell_of_row w g 5 _ _ _ h, cell_of_row w g 6 _ _ _ h, cell_of_row w g 7 _ _ _ h, cell_of_row w g 8 _ _ _ h, cell_of_row w g 9 _ _ _ h, cell_of_row w g 10 _ _ _ h, cell_of_row w g 11 _ _ _ h, cell_of_row w g 12 _ _ _ h, cell_of_row w g 13 _ _ _ h⟩
theorem keep_pair {u w' : World} {g : Nat} {s0 a0 b0 c0 d0 e0 s1 a1 b1 c1 d1 e1 : Int} {A0 A1 : Option Addr} {n0 m0 n1 m1 : Nat} {t : TypeId} (k : Hid (Ext u w')) (h : Hid (u.heap[g]? = some (.cells #[.int .u8 s0, .int .i64 a0, .int .i64 b0, .int .i64 c0, .int .i64 d0, .int .i64 e0, .slice A0 n0 m0, .int .u8 s1, .int .i64 a1, .int .i64 b1, .int .i64 c1, .int .i64 d1, .int .i64 e1, .slice A1 n1 m1] t (0, 0)))) :
    w'.cell? ⟨g, 0, none⟩ = some (.int .u8 s0) ∧ w'.cell? ⟨g, 1, none⟩ = some (.int .i64 a0) ∧ w'.cell? ⟨g, 2, none⟩ = some (.int .i64 b0) ∧ w'.cell? ⟨g, 3, none⟩ = some (.int .i64 c0) ∧ w'.cell? ⟨g, 4, none⟩ = some (.int .i64 d0) ∧ w'.cell? ⟨g, 5, none⟩ = some (.int .i64 e0) ∧ w'.cell? ⟨g, 6, none⟩ = some (.slice A0 n0 m0) ∧ w'.cell? ⟨g, 7, none⟩ = some (.int .u8 s1) ∧ w'.cell? ⟨g, 8, none⟩ = some (.int .i64 a1) ∧ w'.cell? ⟨g, 9, none⟩ = some (.int .i64 b1) ∧ w'.cell? ⟨g, 10, none⟩ = some (.int .i64 c1) ∧ w'.cell? ⟨g, 11, none⟩ = some (.int .i64 d1) ∧ w'.cell? ⟨g, 12, none⟩ = some (.int .i64 e1) ∧ w'.cell? ⟨g, 13, none⟩ = some (.slice A1 n1 m1) := pair_cells ((k.out.block g (Array.getElem?_eq_some_iff.1 h.out).1).trans h.out)

set_option maxRecDepth 100000 in
set_option maxHeartbeats 1600000 in
theorem leads0_of (s0 a0 b0 c0 d0 e0 s1 a1 b1 c1 d1 e1 : Int) (A0 A1 : Option Addr) (n0 m0 n1 m1 : Nat) (w : World) :
    Calls Tryz.prog 122 #[.agg #[.int .u8 s0, .int .i64 a0, .int .i64 b0, .int .i64 c0, .int .i64 d0, .int .i64 e0, .slice A0 n0 m0, .int .u8 s1, .int .i64 a1, .int .i64 b1, .int .i64 c1, .int .i64 d1, .int .i64 e1, .slice A1 n1 m1], .int .i64 0] w fun e w' => e = .returned (.bool (decide (s0 = 1) && decide (d1 ≤ d0))) ∧ Ext w w' := by
  have hT := heap_alloc_new w (.cells #[.int .u8 s0, .int .i64 a0, .int .i64 b0, .int .i64 c0, .int .i64 d0, .int .i64 e0, .slice A0 n0 m0, .int .u8 s1, .int .i64 a1, .int .i64 b1, .int .i64 c1, .int .i64 d1, .int .i64 e1, .slice A1 n1 m1] 129)
  have hE := (Ext.refl w).alloc (.cells #[.int .u8 s0, .int .i64 a0, .int .i64 b0, .int .i64 c0, .int .i64 d0, .int .i64 e0, .slice A0 n0 m0, .int .u8 s1, .int .i64 a1, .int .i64 b1, .int .i64 c1, .int .i64 d1, .int .i64 e1, .slice A1 n1 m1] 129)
  obtain ⟨i0, i1, i2, i3, i4, i5, i6, i7, i8, i9, i10, i11, i12, i13⟩ := pair_cells hT
  have HT := Lib.hid hT
  have HE := Lib.hid hE
  clear hT hE
  go_enter Tryz.func122, Tryz.ntmps122
  go_wp2_with fail
  go_region_held3 (fun w' => w'.cell? ⟨w.heap.size, 0, none⟩ = some (.int .u8 s0) ∧ w'.cell? ⟨w.heap.size, 1, none⟩ = some (.int .i64 a0) ∧ w'.cell? ⟨w.heap.size, 2, none⟩ = some (.int .i64 b0) ∧ w'.cell? ⟨w.heap.size, 3, none⟩ = some (.int .i64 c0) ∧ w'.cell? ⟨w.heap.size, 4, none⟩ = some (.int .i64 d0) ∧ w'.cell? ⟨w.heap.size, 5, none⟩ = some (.int .i64 e0) ∧ w'.cell? ⟨w.heap.size, 6, none⟩ = some (.slice A0 n0 m0) ∧ w'.cell? ⟨w.heap.size, 7, none⟩ = some (.int .u8 s1) ∧ w'.cell? ⟨w.heap.size, 8, none⟩ = some (.int .i64 a1) ∧ w'.cell? ⟨w.heap.size, 9, none⟩ = some (.int .i64 b1) ∧ w'.cell? ⟨w.heap.size, 10, none⟩ = some (.int .i64 c1) ∧ w'.cell? ⟨w.heap.size, 11, none⟩ = some (.int .i64 d1) ∧ w'.cell? ⟨w.heap.size, 12, none⟩ = some (.int .i64 e1) ∧ w'.cell? ⟨w.heap.size, 13, none⟩ = some (.slice A1 n1 m1))
    (first | with_reducible exact ⟨i0, i1, i2, i3, i4, i5, i6, i7, i8, i9, i10, i11, i12, i13⟩ | (refine keep_pair (Lib.hid ?_) HT; repeat (first | exact Ext.refl _ | refine Ext.drew ?_ | refine Ext.alloc ?_ _ | refine Ext.setCell ?_ (by simp) _)))
    (first
      | (go_at_call 65; ((with_reducible refine (other0 _).mono ?_); rintro e w1 ⟨rfl, rfl⟩)))
  all_goals
    clear i0 i1 i2 i3 i4 i5 i6 i7 i8 i9 i10 i11 i12 i13
    by_cases hs : s0 = 1
    · subst hs
      go_wp2_with fail
      go_ret
      exact ⟨by simp, by repeat (first | exact Ext.refl _ | refine Ext.drew ?_ | refine Ext.alloc ?_ _)⟩
    · have hs1 : (s0 == 1) = false := by simpa using hs
      have hs2 := decide_eq_false hs
      clear hs
      go_wp2_with fail
      go_ret
      exact ⟨by rw [hs2]; rfl, by repeat (first | exact Ext.refl _ | refine Ext.drew ?_ | refine Ext.alloc ?_ _)⟩

set_option maxRecDepth 100000 in
set_option maxHeartbeats 1600000 in
theorem leads1_of (s0 a0 b0 c0 d0 e0 s1 a1 b1 c1 d1 e1 : Int) (A0 A1 : Option Addr) (n0 m0 n1 m1 : Nat) (w : World) :
    Calls Tryz.prog 122 #[.agg #[.int .u8 s0, .int .i64 a0, .int .i64 b0, .int .i64 c0, .int .i64 d0, .int .i64 e0, .slice A0 n0 m0, .int .u8 s1, .int .i64 a1, .int .i64 b1, .int .i64 c1, .int .i64 d1, .int .i64 e1, .slice A1 n1 m1], .int .i64 1] w fun e w' => e = .returned (.bool (decide (s1 = 1) && decide (d0 ≤ d1))) ∧ Ext w w' := by
  have hT := heap_alloc_new w (.cells #[.int .u8 s0, .int .i64 a0, .int .i64 b0, .int .i64 c0, .int .i64 d0, .int .i64 e0, .slice A0 n0 m0, .int .u8 s1, .int .i64 a1, .int .i64 b1, .int .i64 c1, .int .i64 d1, .int .i64 e1, .slice A1 n1 m1] 129)
  have hE := (Ext.refl w).alloc (.cells #[.int .u8 s0, .int .i64 a0, .int .i64 b0, .int .i64 c0, .int .i64 d0, .int .i64 e0, .slice A0 n0 m0, .int .u8 s1, .int .i64 a1, .int .i64 b1, .int .i64 c1, .int .i64 d1, .int .i64 e1, .slice A1 n1 m1] 129)
  obtain ⟨i0, i1, i2, i3, i4, i5, i6, i7, i8, i9, i10, i11, i12, i13⟩ := pair_cells hT
  have HT := Lib.hid hT
  have HE := Lib.hid hE
  clear hT hE
  go_enter Tryz.func122, Tryz.ntmps122
  go_wp2_with fail
  go_region_held3 (fun w' => w'.cell? ⟨w.heap.size, 0, none⟩ = some (.int .u8 s0) ∧ w'.cell? ⟨w.heap.size, 1, none⟩ = some (.int .i64 a0) ∧ w'.cell? ⟨w.heap.size, 2, none⟩ = some (.int .i64 b0) ∧ w'.cell? ⟨w.heap.size, 3, none⟩ = some (.int .i64 c0) ∧ w'.cell? ⟨w.heap.size, 4, none⟩ = some (.int .i64 d0) ∧ w'.cell? ⟨w.heap.size, 5, none⟩ = some (.int .i64 e0) ∧ w'.cell? ⟨w.heap.size, 6, none⟩ = some (.slice A0 n0 m0) ∧ w'.cell? ⟨w.heap.size, 7, none⟩ = some (.int .u8 s1) ∧ w'.cell? ⟨w.heap.size, 8, none⟩ = some (.int .i64 a1) ∧ w'.cell? ⟨w.heap.size, 9, none⟩ = some (.int .i64 b1) ∧ w'.cell? ⟨w.heap.size, 10, none⟩ = some (.int .i64 c1) ∧ w'.cell? ⟨w.heap.size, 11, none⟩ = some (.int .i64 d1) ∧ w'.cell? ⟨w.heap.size, 12, none⟩ = some (.int .i64 e1) ∧ w'.cell? ⟨w.heap.size, 13, none⟩ = some (.slice A1 n1 m1))
    (first | with_reducible exact ⟨i0, i1, i2, i3, i4, i5, i6, i7, i8, i9, i10, i11, i12, i13⟩ | (refine keep_pair (Lib.hid ?_) HT; repeat (first | exact Ext.refl _ | refine Ext.drew ?_ | refine Ext.alloc ?_ _ | refine Ext.setCell ?_ (by simp) _)))
    (first
      | (go_at_call 65; ((with_reducible refine (other1 _).mono ?_); rintro e w1 ⟨rfl, rfl⟩)))
  all_goals
    clear i0 i1 i2 i3 i4 i5 i6 i7 i8 i9 i10 i11 i12 i13
    by_cases hs : s1 = 1
    · subst hs
      go_wp2_with fail
      go_ret
      exact ⟨by simp, by repeat (first | exact Ext.refl _ | refine Ext.drew ?_ | refine Ext.alloc ?_ _)⟩
    · have hs1 : (s1 == 1) = false := by simpa using hs
      have hs2 := decide_eq_false hs
      clear hs
      go_wp2_with fail
      go_ret
      exact ⟨by rw [hs2]; rfl, by repeat (first | exact Ext.refl _ | refine Ext.drew ?_ | refine Ext.alloc ?_ _)⟩

end Go.Proofs.YtlikhmhomkiadaaGreatDoor
