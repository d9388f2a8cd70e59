/-
  Plain facts on copies of a cell of any replica: which is loaded, by what both places hold; what Store leaves.
-/
import Derived.Test.YtgcinagkbdcgiaaGreatDoorM00
import Derived.Test.YtgcinagkbdcgiaaGreatDoorM01
import Derived.Test.YtgcinagkbdcgiaaGreatDoorM03
import Derived.Test.YtgcinagkbdcgiaaGreatDoorM06
import Derived.Test.YtgcinagkbdcgiaaGreatDoorM07
import Derived.Test.YtgcinagkbdcgiaaGreatDoorM12
import Derived.Test.YtgcinagkbdcgiaaGreatDoorM13
import Derived.Test.YtgcinagkbdcgiaaGreatDoorM14
import Derived.Deep.RegionHeld3
import Derived.LoopN
import Derived.Deep.DeepCutAuto
import Derived.RangeFuncNested
import Derived.RangeFuncBound
import Derived.RangeFuncCalls
import Derived.RangeFuncLeaves
import Derived.Shelf.Abstract
import Derived.Shelf.RegionOpen
import Derived.WalkKit
import Derived.OwnWalkIn
import Derived.TacticsInMore
import Derived.LoopNIn
import Derived.LoopIn
import Derived.OrdersIn
import Derived.TacticsIn
import Derived.Laws.IdiomArrays
namespace Go.Proofs.YtgcinagkbdcgiaaGreatDoor
set_option maxRecDepth 100000
section
variable {r : Int}
structure CopU (r : Int) (x : List Nat) (g p : Int) (v c : Nat) (b : List Nat) : Prop where
  st : stM x r g p = 1
  v3 : mfl x r g p 3 = v
  c4 : mfl x r g p 4 = c
  bd : mbl x r g p = b
theorem cop_sealU {g p : Int} {i c : Nat} {b : List Nat} (h : mayB r g p (i : Int) (c : Int) = true) (hn : b.length ≤ 43) : CopU r (sealC r g p i c b) g p i c b := by
  obtain ⟨h1, _, h3, _, _, _, h4, h5⟩ := seal_mine (seal_one (n := b.length) h hn)
  exact ⟨h1, Int.ofNat.inj h4, Int.ofNat.inj h5, h3⟩
structure LddU (r : Int) (g : Int) (x y : List Nat) (E : Int) (v : Nat) (b : List Nat) : Prop where
  e : cellE r g x y = E
  v : cellF r g x y 3 = v
  b : cellB r g x y = b
section
variable {g : Int} {x y : List Nat} {v c u d : Nat} {b e : List Nat}
theorem at0U (h : CopU r x g 0 v c b) (hy : mfl y r g 1 3 ≤ v) : atC r g x y = 0 := by
  unfold atC pickP lead0
  rw [h.st, h.v3, decide_eq_true hy]
  rfl
theorem at1U (h : CopU r y g 1 v c b) (hx : mfl x r g 0 3 < v ∨ stM x r g 0 ≠ 1) : atC r g x y = 1 := by
  have hx2 : lead0 r g x y = false := by
    unfold lead0
    rw [h.v3]
    rcases hx with hx | hx
    · rw [decide_eq_false (p := v ≤ _) (by omega)]; simp
    · rw [decide_eq_false hx]; rfl
  have hx3 : mfl x r g 0 3 ≤ v := by
    rcases hx with hx | hx
    · omega
    · rw [no_copy hx]; omega
  unfold atC pickP
  rw [hx2]
  unfold lead1
  rw [h.st, h.v3, decide_eq_true hx3]
  rfl
theorem atmU (hx : stM x r g 0 ≠ 1) (hy : stM y r g 1 ≠ 1) : atC r g x y = -1 := by
  unfold atC pickP lead0 lead1
  rw [decide_eq_false hx, decide_eq_false hy]
  rfl
theorem ldd0U (h : CopU r x g 0 v c b) (hy : mfl y r g 1 3 ≤ v) : LddU r g x y 0 v b := by
  have ha := at0U h hy
  exact ⟨by unfold cellE; rw [ha, if_neg (by omega)], by unfold cellF; rw [if_pos ha, h.v3], by unfold cellB; rw [if_pos ha, h.bd]⟩
theorem ldd1U (h : CopU r y g 1 v c b) (hx : mfl x r g 0 3 < v ∨ stM x r g 0 ≠ 1) : LddU r g x y 0 v b := by
  have ha := at1U h hx
  exact ⟨by unfold cellE; rw [ha, if_neg (by omega)], by unfold cellF; rw [if_neg (by rw [ha]; omega), if_pos ha, h.v3], by unfold cellB; rw [if_neg (by rw [ha]; omega), if_pos ha, h.bd]⟩
theorem ldd_blankU (hx : stM x r g 0 = 0) (hy : stM y r g 1 = 0) : LddU r g x y 0 0 [] := by
  have ha := atmU (r := r) (g := g) (x := x) (y := y) (by omega) (by omega)
  refine ⟨?_, by unfold cellF; rw [ha]; rfl, by unfold cellB; rw [ha]; rfl⟩
  unfold cellE blankC pickP
  rw [hx, if_neg (by simp)]
end
structure LdU (r : Int) (m : DM) (g : Int) (v : Nat) (b : List Nat) : Prop where
  e : m.loadE r g = 0
  v : m.loadV r g = v
  b : m.loadB r g = b
section
variable {m : DM} {pw : Int} {g : Int} {v : Nat} {b : List Nat}
theorem CD.loadEU (h : CD m pw) (hg : g = 1 ∨ g = 2) : m.loadE r g = cellE r g (m.hold (secV g 0)) (m.hold (secV g 1)) := by
  unfold DM.loadE
  rw [if_neg (by rw [h.up]; simp), h.cb0 hg, h.cb1 hg]
theorem CD.ldU (h : CD m pw) (hg : g = 1 ∨ g = 2) (k : LddU r g (m.hold (secV g 0)) (m.hold (secV g 1)) 0 v b) : LdU r m g v b := by
  have he : m.loadE r g = 0 := by rw [h.loadEU hg]; exact k.e
  refine ⟨he, ?_, ?_⟩
  · unfold DM.loadV
    rw [if_pos he, h.cb0 hg, h.cb1 hg]
    exact k.v
  · unfold DM.loadB
    rw [if_pos he, h.cb0 hg, h.cb1 hg]
    exact k.b
end
def TwoU (r : Int) (m : DM) (g : Int) (v : Nat) (b : List Nat) : Prop :=
  (v = 0 ∧ b = [] ∧ m.hold (secV g 0) = z64 ∧ m.hold (secV g 1) = z64) ∨ (1 ≤ v ∧ ∃ c d, CopU r (m.hold (secV g 0)) g 0 v c b ∧ CopU r (m.hold (secV g 1)) g 1 v d b)
theorem TwoU.of_eq {m m' : DM} {g : Int} {v : Nat} {b : List Nat} (h : TwoU r m g v b) (h0 : m'.hold (secV g 0) = m.hold (secV g 0)) (h1 : m'.hold (secV g 1) = m.hold (secV g 1)) : TwoU r m' g v b := by
  unfold TwoU
  rw [h0, h1]
  exact h
theorem TwoU.ldd {m : DM} {g : Int} {v : Nat} {b : List Nat} (h : TwoU r m g v b) : LddU r g (m.hold (secV g 0)) (m.hold (secV g 1)) 0 v b := by
  rcases h with ⟨rfl, rfl, h0, h1⟩ | ⟨hv, c, d, h0, h1⟩
  · rw [h0, h1]
    exact ldd_blankU (z64_blank r g 0) (z64_blank r g 1)
  · exact ldd0U h0 (by rw [h1.v3]; omega)
theorem new_twoU {g : Int} (hg : g = 1 ∨ g = 2) : TwoU r (DM.new 156) g 0 [] := .inl ⟨rfl, rfl, new_hold (secV_lt hg (by omega)), new_hold (secV_lt hg (by omega))⟩
theorem TwoU.store {m : DM} {pw : Int} {g : Int} {v : Nat} {b : List Nat} (hd : CD m pw) (hg : g = 1 ∨ g = 2) (h : TwoU r m g v b) (hv : v < 1099511627776) {c : Nat} (hc : 1 ≤ c ∧ c ≤ 1099511627776) {body : List Nat} (hn : body.length ≤ 43) :
    ∃ f o : Nat, f ≤ 1 ∧ o = 1 - f ∧ (v = 0 → f = 0) ∧ (1 ≤ v → f = 1) ∧ m.store r g (c : Int) body = m.two (secV g f) (secV g o) (sealC r g f (v + 1) c body) (sealC r g o (v + 1) c body) := by
  have hl := hd.ldU hg h.ldd
  have hE : m.storeE r g (c : Int) body.length = 0 := by
    unfold DM.storeE
    rw [if_neg (by omega), if_neg (by omega), if_neg (by rw [hl.e]; simp), if_neg (by rw [hl.v]; omega)]
  have hs : m.store r g (c : Int) body = m.puts2 r g (firstP r g (m.cb g 0) (m.cb g 1)) (v + 1) c body := by
    unfold DM.store
    rw [if_neg (by rw [hE]; simp), hl.v, Int.toNat_natCast]
  rw [hs, hd.cb0 hg, hd.cb1 hg]
  rcases h with ⟨rfl, rfl, h0, h1⟩ | ⟨hv1, c0, d0, h0, h1⟩
  · refine ⟨0, 1, by omega, rfl, fun _ => rfl, fun h => absurd h (by omega), ?_⟩
    have ha := atmU (r := r) (g := g) (x := z64) (y := z64) (by rw [z64_blank]; omega) (by rw [z64_blank]; omega)
    have hf : firstP r g (m.hold (secV g 0)) (m.hold (secV g 1)) = 0 := by unfold firstP; rw [h0, h1, if_neg (by rw [ha]; omega)]
    rw [hf]
    unfold DM.puts2 DM.two
    rw [show firstS g 0 = (secV g 0 : Nat) from secV_first hg (p := 0) (by omega), show firstS g (otherP 0) = (secV g 1 : Nat) from secV_first hg (p := 1) (by omega)]
    rfl
  · refine ⟨1, 0, by omega, rfl, fun h => absurd h (by omega), fun _ => rfl, ?_⟩
    have ha := at0U h0 (y := m.hold (secV g 1)) (by rw [h1.v3]; omega)
    have hf : firstP r g (m.hold (secV g 0)) (m.hold (secV g 1)) = 1 := by unfold firstP; rw [if_pos ha]
    rw [hf]
    unfold DM.puts2 DM.two
    rw [show firstS g 1 = (secV g 1 : Nat) from secV_first hg (p := 1) (by omega), show firstS g (otherP 1) = (secV g 0 : Nat) from secV_first hg (p := 0) (by omega)]
    rfl
theorem may_newU (hr : 0 ≤ r ∧ r < 7) {g : Int} (hg : g = 1 ∨ g = 2) {p : Nat} (hp : p ≤ 1) {v c : Nat} (hv : v < 1099511627776) (hc : 1 ≤ c ∧ c ≤ 1099511627776) : mayB r g (p : Int) ((v + 1 : Nat) : Int) (c : Int) = true := may_store (by omega) hg (by omega) hv (by omega)
end
section
variable {r : Int}
def SomeU (r : Int) (m : DM) (g : Int) (v : Nat) (b : List Nat) : Prop :=
  (v = 0 ∧ b = [] ∧ m.hold (secV g 0) = z64 ∧ m.hold (secV g 1) = z64) ∨ (1 ≤ v ∧ ∃ c, CopU r (m.hold (secV g 0)) g 0 v c b ∧ mfl (m.hold (secV g 1)) r g 1 3 ≤ v ∧ (mfl (m.hold (secV g 1)) r g 1 3 = v → mbl (m.hold (secV g 1)) r g 1 = b)) ∨ (1 ≤ v ∧ ∃ c, CopU r (m.hold (secV g 1)) g 1 v c b ∧ mfl (m.hold (secV g 0)) r g 0 3 < v)
theorem SomeU.ldd {m : DM} {g : Int} {v : Nat} {b : List Nat} (h : SomeU r m g v b) : LddU r g (m.hold (secV g 0)) (m.hold (secV g 1)) 0 v b := by
  rcases h with ⟨rfl, rfl, h0, h1⟩ | ⟨_, c, h0, h1, _⟩ | ⟨_, c, h1, h0⟩
  · rw [h0, h1]
    exact ldd_blankU (z64_blank r g 0) (z64_blank r g 1)
  · exact ldd0U h0 h1
  · exact ldd1U h1 (.inl h0)
theorem two_someU {m : DM} {g : Int} {v : Nat} {b : List Nat} (h : TwoU r m g v b) : SomeU r m g v b := by
  rcases h with ⟨rfl, rfl, h0, h1⟩ | ⟨hv, c, d, h0, h1⟩
  · exact .inl ⟨rfl, rfl, h0, h1⟩
  · exact .inr (.inl ⟨hv, c, h0, by rw [h1.v3]; omega, fun _ => h1.bd⟩)
theorem z64_vU (g p : Int) (k : Nat) : mfl z64 r g p k = 0 := no_copy (by rw [z64_blank]; omega) k
theorem TwoU.power {m : DM} {k : Nat} {g : Int} {v : Nat} {b : List Nat} (hr : 0 ≤ r ∧ r < 7) (hd : CD m (k : Int)) (hg : g = 1 ∨ g = 2) (h : TwoU r m g v b) (hv : v < 1099511627776) {c : Nat} (hc : 1 ≤ c ∧ c ≤ 1099511627776) {body : List Nat} (hn : body.length ≤ 43) (hb : ∀ x ∈ body, x < 256) (keep : List Bool) :
    ((m.store r g (c : Int) body).1 = if k < 4 then 5 else 0) ∧ ((m.store r g (c : Int) body).2.crash keep).1 = 0 ∧ ((m.store r g (c : Int) body).2.crash keep).2.start.1 = 0 ∧ CD ((m.store r g (c : Int) body).2.crash keep).2.start.2 (-1) ∧
      (SomeU r ((m.store r g (c : Int) body).2.crash keep).2.start.2 g v b ∨ SomeU r ((m.store r g (c : Int) body).2.crash keep).2.start.2 g (v + 1) body) ∧ (4 ≤ k → TwoU r ((m.store r g (c : Int) body).2.crash keep).2.start.2 g (v + 1) body) := by
  obtain ⟨f, o, hf, ho, f0, f1, hs⟩ := h.store hd hg hv hc hn
  have ho1 : o ≤ 1 := by omega
  obtain ⟨r1, r2, r3, r4, r5, r6⟩ := hd.two_power (a := secV g f) (b := secV g o) (secV_lt hg hf) (secV_lt hg ho1) (sealC_sect (may_newU hr hg hf hv hc) hn hb) (sealC_sect (may_newU hr hg ho1 hv hc) hn hb) keep
  rw [hs]
  have n0 := cop_sealU (may_newU hr hg (p := 0) (by omega) hv hc) hn
  have n1 := cop_sealU (may_newU hr hg (p := 1) (by omega) hv hc) hn
  have both : ∀ m2 : DM, (∀ t, m2.hold t = if t = secV g o then sealC r g o (v + 1) c body else if t = secV g f then sealC r g f (v + 1) c body else m.hold t) → TwoU r m2 g (v + 1) body := fun m2 hh => by
    refine .inr ⟨by omega, c, c, ?_, ?_⟩
    · have hff : f = 0 ∨ f = 1 := by omega
      rcases hff with rfl | rfl
      · obtain rfl : o = 1 := by omega
        rw [hh, if_neg secV_ne, if_pos rfl]; exact n0
      · obtain rfl : o = 0 := by omega
        rw [hh, if_pos rfl]; exact n0
    · have hff : f = 0 ∨ f = 1 := by omega
      rcases hff with rfl | rfl
      · obtain rfl : o = 1 := by omega
        rw [hh, if_pos rfl]; exact n1
      · obtain rfl : o = 0 := by omega
        rw [hh, if_neg (fun e => secV_ne e.symm), if_pos rfl]; exact n1
  refine ⟨r1, r2, r3, r4, ?_, fun hk => both _ (r6 hk)⟩
  cases r5 with
  | none hh => exact .inl (two_someU (h.of_eq (hh _) (hh _)))
  | both hh => exact .inr (two_someU (both _ hh))
  | one hh =>
    right
    rcases h with ⟨rfl, rfl, h0, h1⟩ | ⟨hv1, p, q, h0, h1⟩
    · obtain rfl := f0 rfl
      refine .inr (.inl ⟨by omega, c, by rw [hh, if_pos rfl]; exact n0, ?_, fun hq => ?_⟩)
      · rw [hh, if_neg (fun e => secV_ne e.symm), h1, z64_vU]; omega
      · rw [hh, if_neg (fun e => secV_ne e.symm), h1, z64_vU] at hq; omega
    · obtain rfl := f1 hv1
      refine .inr (.inr ⟨by omega, c, by rw [hh, if_pos rfl]; exact n1, ?_⟩)
      rw [hh, if_neg secV_ne, h0.v3]
      omega
def HealU (r : Int) (m : DM) (g : Int) (v : Nat) (b : List Nat) : Prop := (m.heal r g = (0, m) ∧ TwoU r m g v b) ∨ ∃ (s : Nat) (L : List Nat), s < 156 ∧ Sect L ∧ m.heal r g = m.putC (s : Int) L ∧ ∀ m' : DM, (∀ t, m'.hold t = if t = s then L else m.hold t) → TwoU r m' g v b
theorem heal0U {m : DM} {g : Int} {v c : Nat} {b : List Nat} {pw : Int} (hd : CD m pw) (hg : g = 1 ∨ g = 2) (hv : 1 ≤ v) (h0 : CopU r (m.hold (secV g 0)) g 0 v c b) (h1 : mfl (m.hold (secV g 1)) r g 1 3 ≤ v) : HealU r m g v b := by
  have ha := at0U h0 h1
  have hl := hd.ldU hg (ldd0U h0 h1)
  have hx : m.hold (secV g 0) = [] ∨ Sect (m.hold (secV g 0)) := by rw [← hd.cb0 hg]; exact read_sect hd.b.ok _
  obtain ⟨_, _, _, hmay, hlen⟩ := mine_copy hx h0.st
  rw [h0.v3, h0.c4] at hmay
  rw [h0.bd] at hlen
  have hbl : ∀ z ∈ b, z < 256 := by
    rw [← h0.bd]
    rcases hx with e | e
    · rw [e]; intro z hz; unfold mbl obl bodyOf at hz; (repeat' split at hz) <;> simp at hz
    · intro z hz
      unfold mbl obl bodyOf at hz
      (repeat' split at hz) <;> first | (simp at hz; done) | exact e.2 z (List.mem_of_mem_drop (List.mem_of_mem_take hz))
  unfold HealU DM.heal
  rw [if_neg (by rw [hl.e]; simp), hd.cb0 hg, hd.cb1 hg, ha]
  by_cases hs : sameC r g (m.hold (secV g 0)) (m.hold (secV g 1)) = true
  · rw [if_pos (.inr hs)]
    refine .inl ⟨rfl, .inr ⟨hv, c, mfl (m.hold (secV g 1)) r g 1 4, h0, ?_⟩⟩
    unfold sameC at hs
    rw [if_pos ha, Bool.and_eq_true, Bool.and_eq_true] at hs
    exact ⟨of_decide_eq_true hs.1, (of_decide_eq_true hs.2.1).trans h0.v3, rfl, (of_decide_eq_true hs.2.2).trans h0.bd⟩
  · rw [if_neg (fun h => h.elim (fun h => by cases h) hs)]
    have hf : ∀ k, cellF r g (m.hold (secV g 0)) (m.hold (secV g 1)) k = mfl (m.hold (secV g 0)) r g 0 k := fun k => by unfold cellF; rw [if_pos ha]
    have hb2 : cellB r g (m.hold (secV g 0)) (m.hold (secV g 1)) = b := by unfold cellB; rw [if_pos ha, h0.bd]
    rw [hf, hf, hb2, h0.v3, h0.c4, show firstS g (otherP 0) = (secV g 1 : Nat) from secV_first hg (p := 1) (by omega)]
    have hm1 : mayB r g ((1 : Nat) : Int) (v : Int) (c : Int) = true := may_other hg (.inr rfl) hmay
    exact .inr ⟨secV g 1, sealC r g (otherP 0) v c b, secV_lt hg (by omega), sealC_sect hm1 hlen hbl, rfl, fun m' k2 => .inr ⟨hv, c, c, by rw [k2, if_neg secV_ne]; exact h0, by rw [k2, if_pos rfl]; exact cop_sealU hm1 hlen⟩⟩
theorem heal1U {m : DM} {g : Int} {v c : Nat} {b : List Nat} {pw : Int} (hd : CD m pw) (hg : g = 1 ∨ g = 2) (hv : 1 ≤ v) (h1 : CopU r (m.hold (secV g 1)) g 1 v c b) (h0 : mfl (m.hold (secV g 0)) r g 0 3 < v) : HealU r m g v b := by
  have ha := at1U h1 (.inl h0)
  have hl := hd.ldU hg (ldd1U h1 (.inl h0))
  have hx : m.hold (secV g 1) = [] ∨ Sect (m.hold (secV g 1)) := by rw [← hd.cb1 hg]; exact read_sect hd.b.ok _
  obtain ⟨_, _, _, hmay, hlen⟩ := mine_copy hx h1.st
  rw [h1.v3, h1.c4] at hmay
  rw [h1.bd] at hlen
  have hbl : ∀ z ∈ b, z < 256 := by
    rw [← h1.bd]
    rcases hx with e | e
    · rw [e]; intro z hz; unfold mbl obl bodyOf at hz; (repeat' split at hz) <;> simp at hz
    · intro z hz
      unfold mbl obl bodyOf at hz
      (repeat' split at hz) <;> first | (simp at hz; done) | exact e.2 z (List.mem_of_mem_drop (List.mem_of_mem_take hz))
  unfold HealU DM.heal
  rw [if_neg (by rw [hl.e]; simp), hd.cb0 hg, hd.cb1 hg, ha]
  have hs : sameC r g (m.hold (secV g 0)) (m.hold (secV g 1)) = false := by
    unfold sameC
    rw [if_neg (by rw [ha]; omega), decide_eq_false (p := mfl (m.hold (secV g 0)) r g 0 3 = mfl (m.hold (secV g 1)) r g 1 3) (by rw [h1.v3]; omega)]
    simp
  rw [if_neg (fun h => h.elim (fun h => by cases h) (fun h => by rw [hs] at h; cases h))]
  have hf : ∀ k, cellF r g (m.hold (secV g 0)) (m.hold (secV g 1)) k = mfl (m.hold (secV g 1)) r g 1 k := fun k => by unfold cellF; rw [if_neg (by rw [ha]; omega), if_pos ha]
  have hb2 : cellB r g (m.hold (secV g 0)) (m.hold (secV g 1)) = b := by unfold cellB; rw [if_neg (by rw [ha]; omega), if_pos ha, h1.bd]
  rw [hf, hf, hb2, h1.v3, h1.c4, show firstS g (otherP 1) = (secV g 0 : Nat) from secV_first hg (p := 0) (by omega)]
  have hm1 : mayB r g ((0 : Nat) : Int) (v : Int) (c : Int) = true := may_other hg (.inl rfl) hmay
  exact .inr ⟨secV g 0, sealC r g (otherP 1) v c b, secV_lt hg (by omega), sealC_sect hm1 hlen hbl, rfl, fun m' k2 => .inr ⟨hv, c, c, by rw [k2, if_pos rfl]; exact cop_sealU hm1 hlen, by rw [k2, if_neg (fun e => secV_ne e.symm)]; exact h1⟩⟩
theorem SomeU.heal {m : DM} {g : Int} {v : Nat} {b : List Nat} {pw : Int} (hd : CD m pw) (hg : g = 1 ∨ g = 2) (h : SomeU r m g v b) : HealU r m g v b := by
  rcases h with ⟨rfl, rfl, h0, h1⟩ | ⟨hv, c, h0, h1, _⟩ | ⟨hv, c, h1, h0⟩
  · have ha := atmU (r := r) (g := g) (x := z64) (y := z64) (by rw [z64_blank]; omega) (by rw [z64_blank]; omega)
    have hl := hd.ldU (v := 0) (b := []) hg (by rw [h0, h1]; exact ldd_blankU (z64_blank r g 0) (z64_blank r g 1))
    refine .inl ⟨?_, .inl ⟨rfl, rfl, h0, h1⟩⟩
    unfold DM.heal
    rw [if_neg (by rw [hl.e]; simp), hd.cb0 hg, hd.cb1 hg, h0, h1, if_pos (.inl ha)]
  · exact heal0U hd hg hv h0 h1
  · exact heal1U hd hg hv h1 h0
end
section
def After (m : DM) (P : DM → Prop) : Prop := ∀ keep : List Bool, (m.crash keep).1 = 0 ∧ (m.crash keep).2.start.1 = 0 ∧ CD (m.crash keep).2.start.2 (-1) ∧ P (m.crash keep).2.start.2
section
variable {m : DM} {pw : Int} {r : Int} {v : Nat} {b : List Nat}
def Sto (v : Nat) (body : List Nat) (A B C : Int) : Prop := (v = 0 ∧ A = 0 ∧ B = 0 ∧ C = 0) ∨ (1 ≤ v ∧ mayU A B C = true ∧ body = uL A B C)
theorem Sto.of {A B C : Int} (h : mayU A B C = true) : Sto (v + 1) (uL A B C) A B C := .inr ⟨by omega, h, rfl⟩
end
end
section
structure ShM where
  ix : Nat := 0
  ar : Nat := 0
  ct : Nat := 0
def manL (s : ShM) : List Nat := (digs 6 s.ix ++ digs 1 s.ar) ++ digs 1 s.ct
def manR (b : List Nat) : ShM := ⟨num ((b.drop 0).take 6), num ((b.drop 6).take 1), num ((b.drop 7).take 1)⟩
def manOk (s : ShM) : Bool := decide (1 ≤ s.ix ∧ s.ix ≤ 1099511627752 ∧ s.ar ≤ 1 ∧ 1 ≤ s.ct ∧ s.ct ≤ 8)
def manB (b : List Nat) : Bool := decide (b.length = 8) && manOk (manR b)
def manE (b : List Nat) : Int := if manB b = true then 0 else 130
def manS (b : List Nat) : ShM := if manB b = true then manR b else {}
theorem manOk_iff {s : ShM} : manOk s = true ↔ 1 ≤ s.ix ∧ s.ix ≤ 1099511627752 ∧ s.ar ≤ 1 ∧ 1 ≤ s.ct ∧ s.ct ≤ 8 := decide_eq_true_iff
theorem manL_len (s : ShM) : (manL s).length = 8 := by unfold manL; simp [digs_length]
theorem manL_lt (s : ShM) : ∀ x ∈ manL s, x < 256 := by
  intro x hx
  unfold manL at hx
  rcases List.mem_append.1 hx with h | h
  · rcases List.mem_append.1 h with h | h
    · exact digs_lt _ _ x h
    · exact digs_lt _ _ x h
  · exact digs_lt _ _ x h
theorem man_back {s : ShM} (h : manOk s = true) : manB (manL s) = true ∧ manR (manL s) = s := by
  obtain ⟨h1, h2, h3, h4, h5⟩ := manOk_iff.1 h
  have e0 : num (((manL s).drop 0).take 6) = s.ix := by
    unfold manL
    rw [List.drop_zero, List.append_assoc, List.take_append_of_le_length (by rw [digs_length]; exact Nat.le_refl _), List.take_of_length_le (by rw [digs_length]; exact Nat.le_refl _), num_digs 6 _ (by simp; omega)]
  have e1 : num (((manL s).drop 6).take 1) = s.ar := by
    unfold manL
    rw [List.append_assoc, List.drop_left' (digs_length 6 _), List.take_append_of_le_length (by rw [digs_length]; exact Nat.le_refl _), List.take_of_length_le (by rw [digs_length]; exact Nat.le_refl _), num_digs 1 _ (by simp; omega)]
  have e2 : num (((manL s).drop 7).take 1) = s.ct := by
    unfold manL
    rw [List.drop_left' (by simp [digs_length]), List.take_of_length_le (by rw [digs_length]; exact Nat.le_refl _), num_digs 1 _ (by simp; omega)]
  have e : manR (manL s) = s := by
    unfold manR
    rw [e0, e1, e2]
  refine ⟨?_, e⟩
  unfold manB
  rw [e, h, manL_len]
  rfl
theorem manE_back {s : ShM} (h : manOk s = true) : manE (manL s) = 0 ∧ manS (manL s) = s := by
  obtain ⟨h1, h2⟩ := man_back h
  unfold manE manS
  rw [if_pos h1, if_pos h1]
  exact ⟨rfl, h2⟩
def sC (p : Nat) : Nat := 124 + 2 * p
theorem first5 {p : Nat} (h : p < 16) : firstS 5 (p : Int) = (sC p : Nat) := by
  unfold firstS sC
  rw [if_pos (by simp [plc]; omega)]
  simp [beg, wid]
  omega
theorem sC_lt {p : Nat} (h : p < 16) : sC p + 1 < 156 := by unfold sC; omega
def DM.kb (m : DM) (p : Int) : List Nat := pair2 (m.read (firstS 5 p)).1 (m.read (firstS 5 p + 1)).1
def okC (r : Int) (s : ShM) (k : Nat) (x : List Nat) : Bool := decide (stM x r 5 ((8 * s.ar + k : Nat) : Int) = 1 ∧ mfl x r 5 ((8 * s.ar + k : Nat) : Int) 3 = s.ix ∧ (paZ (mbl x r 5 ((8 * s.ar + k : Nat) : Int))).2.2 = 0 ∧ (paZ (mbl x r 5 ((8 * s.ar + k : Nat) : Int))).1 = s.ct ∧ fitsC k s.ct (paZ (mbl x r 5 ((8 * s.ar + k : Nat) : Int))).2.1.length = true)
def bytC (r : Int) (s : ShM) (k : Nat) (x : List Nat) : List Nat := if okC r s k x = true then (paZ (mbl x r 5 ((8 * s.ar + k : Nat) : Int))).2.1 else []
def DM.chB (m : DM) (r : Int) (s : ShM) (k : Nat) : Bool := okC r s k (m.kb ((8 * s.ar + k : Nat) : Int))
def DM.chL (m : DM) (r : Int) (s : ShM) (k : Nat) : List Nat := bytC r s k (m.kb ((8 * s.ar + k : Nat) : Int))
def DM.hurtK (m : DM) (r : Int) (s : ShM) (n : Nat) : List Nat := (List.range n).filter fun k => !m.chB r s k
theorem hurtK_succ (m : DM) (r : Int) (s : ShM) (n : Nat) : m.hurtK r s (n + 1) = if m.chB r s n = true then m.hurtK r s n else m.hurtK r s n ++ [n] := by
  unfold DM.hurtK
  rw [List.range_succ, List.filter_append]
  cases h : m.chB r s n <;> simp [h]
theorem hurtK_nil {m : DM} {r : Int} {s : ShM} {n : Nat} : m.hurtK r s n = [] ↔ ∀ k, k < n → m.chB r s k = true := by
  unfold DM.hurtK
  rw [List.filter_eq_nil_iff]
  constructor
  · intro h k hk
    have := h k (List.mem_range.2 hk)
    simpa using this
  · intro h k hk
    simp [h k (List.mem_range.1 hk)]
def DM.catK (m : DM) (r : Int) (s : ShM) (n : Nat) : List Nat := ((List.range n).map (m.chL r s)).flatten
theorem catK_succ (m : DM) (r : Int) (s : ShM) (n : Nat) : m.catK r s (n + 1) = m.catK r s n ++ m.chL r s n := by
  unfold DM.catK
  rw [List.range_succ]
  simp
def DM.chunkE (m : DM) (r : Int) (s : ShM) (k : Int) : Int := if ¬ (0 ≤ k ∧ k < (s.ct : Int)) then 2 else if m.up = false then 5 else if m.chB r s k.toNat = true then 0 else 130
def DM.chunkO (m : DM) (r : Int) (s : ShM) (k : Int) : List Nat := if m.chunkE r s k = 0 then m.chL r s k.toNat else []
def DM.allE (m : DM) (r : Int) (s : ShM) : Int := if m.up = false then 5 else if m.hurtK r s s.ct = [] then 0 else 130
def DM.allO (m : DM) (r : Int) (s : ShM) : List Nat := if m.allE r s = 0 then m.catK r s s.ct else []
def frmY (r inc : Int) (s : ShM) (k : Nat) (c : List Nat) : List Nat := sealL r 5 ((8 * s.ar + k : Nat) : Int) (s.ix : Int) inc (prZL (s.ct : Int) c) 2
def wrsY (r inc : Int) (s : ShM) : Int × DM → Nat → List (List Nat) → Int × DM
  | x, _, [] => x
  | x, k, c :: l => wrsY r inc s (wrsE x (firstS 5 ((8 * s.ar + k : Nat) : Int)) (frmY r inc s k c) 2) (k + 1) l
theorem wrsY_snoc (r inc : Int) (s : ShM) (c : List Nat) : ∀ (l : List (List Nat)) (x : Int × DM) (k : Nat), wrsY r inc s x k (l ++ [c]) = wrsE (wrsY r inc s x k l) (firstS 5 ((8 * s.ar + (k + l.length) : Nat) : Int)) (frmY r inc s (k + l.length) c) 2
  | [], x, k => rfl
  | d :: l, x, k => by
    show wrsY r inc s _ (k + 1) (l ++ [c]) = _
    rw [wrsY_snoc r inc s c l]
    rw [List.length_cons, show k + 1 + l.length = k + (l.length + 1) from by omega]
    rfl
theorem wrsY_err (r inc : Int) (s : ShM) {E : Int} {m : DM} (h : E ≠ 0) : ∀ (l : List (List Nat)) (k : Nat), wrsY r inc s (E, m) k l = (E, m)
  | [], _ => rfl
  | c :: l, k => by
    show wrsY r inc s _ (k + 1) l = _
    rw [wrs_err h]
    exact wrsY_err r inc s h l (k + 1)
def DM.wrY (m : DM) (r inc : Int) (s : ShM) (k : Nat) (l : List (List Nat)) : Int × DM := unE (wrsY r inc s (0, m) k l) DM.flush
def nextY (s : ShM) (i n : Nat) : ShM := ⟨i, if s.ix = 0 then 0 else 1 - s.ar, n⟩
def DM.putY (m : DM) (r inc : Int) (s : ShM) (l : List (List Nat)) : Int × DM := if (m.wrY r inc s 0 l).1 ≠ 0 then m.wrY r inc s 0 l else (m.wrY r inc s 0 l).2.store r 2 inc (manL s)
end
section
open Go Go.RowKit
structure LogAt (w : World) (g d : Nat) (r inc : Int) (s : Nat) : Prop where
  row : w.heap[g]? = some (.cells #[.pointer (some ⟨g, 0, none⟩), .pointer (some ⟨d, 0, none⟩), .int .i64 r, .int .i64 inc, .int .i64 (s : Int)] 123 (0, 0))
theorem LogAt.lt {w : World} {g d s : Nat} {r inc : Int} (h : LogAt w g d r inc s) : g < w.heap.size := (Array.getElem?_eq_some_iff.1 h.row).1
theorem LogAt.cells {w : World} {g d s : Nat} {r inc : Int} (h : LogAt w g d r inc s) : w.cell? ⟨g, 0, none⟩ = some (.pointer (some ⟨g, 0, none⟩)) ∧ w.cell? ⟨g, 1, none⟩ = some (.pointer (some ⟨d, 0, none⟩)) ∧ w.cell? ⟨g, 2, none⟩ = some (.int .i64 r) ∧ w.cell? ⟨g, 3, none⟩ = some (.int .i64 inc) ∧ w.cell? ⟨g, 4, none⟩ = some (.int .i64 (s : Int)) :=
  ⟨cell_of_row w g 0 _ _ _ h.row, cell_of_row w g 1 _ _ _ h.row, cell_of_row w g 2 _ _ _ h.row, cell_of_row w g 3 _ _ _ h.row, cell_of_row w g 4 _ _ _ h.row⟩
theorem LogAt.ext {w w' : World} {g d s : Nat} {r inc : Int} (h : LogAt w g d r inc s) (hx : Ext w w') : LogAt w' g d r inc s := ⟨(hx.block _ h.lt).trans h.row⟩
theorem LogAt.mod {w w' : World} {F : Nat → Prop} {g d s : Nat} {r inc : Int} (h : LogAt w g d r inc s) (hm : Mod F w w') (hF : ¬ F g) : LogAt w' g d r inc s := ⟨(hm.block g h.lt hF).trans h.row⟩
theorem wrap_i64 {x : Int} (h1 : -9223372036854775808 ≤ x) (h2 : x ≤ 9223372036854775807) : IntKind.i64.wrap x = x := IntWalk.i64_in _ (by omega)
def inI (a b c : Int) : Bool := decide (a ≤ b) && decide (b ≤ c)
end
section
open Go Go.RowKit Go.Shelf
attribute [local go_sem] Oper.semAt_some
def pcA (A : Option Addr) (c k : Nat) : Option Addr := if c = 80 * k then A else A.map fun a => a.add (80 * k)
def pcV (A : Option Addr) (n c k : Nat) : Value := .slice (pcA A c k) (min 80 (n - 80 * k)) (c - 80 * k)
theorem By.chunk {w : World} {A : Option Addr} {n c : Nat} {b : List Nat} (h : By w A n c b) (k : Nat) (hk : 80 * k ≤ n) : By w (pcA A c k) (min 80 (n - 80 * k)) (c - 80 * k) (chunkL b k) := by
  have hl := h.len
  have hcp := h.cap
  have hm := h.most
  by_cases hz : n = 80 * k
  · have hnil : chunkL b k = [] := by
      unfold chunkL
      rw [List.drop_of_length_le (by omega)]; rfl
    rw [hnil]
    refine ⟨by simp; omega, by omega, by omega, Rd.nil_, fun e => ?_⟩
    unfold pcA at e
    split at e
    · omega
    · rw [Option.map_eq_none_iff] at e
      have := Bs.nil_ h e
      omega
  · obtain ⟨g, o, hA, _⟩ := h.rd.2 (by omega)
    subst hA
    have e : pcA (some ⟨g, o, none⟩) c k = some ⟨g, o + 80 * k, none⟩ := by
      unfold pcA
      rw [if_neg (by omega), Option.map_some, Addr.add_lit]
    rw [e]
    unfold chunkL
    refine ⟨by rw [List.length_take, List.length_drop]; omega, by omega, by omega, (h.rd.drop rfl (80 * k)).take 80, fun e => by cases e⟩
theorem zcut_mid (A : Option Addr) (n c k : Nat) (h : 80 * k + 80 ≤ n) (hc : n ≤ c) (w : World) : (Instr.slice 45 (.slice A n c) (some (.int .i64 (80 * (k : Int)))) (some (.int .i64 (80 * (k : Int) + 80))) none).run Tryz.prog w = .ok (pcV A n c k) w := by
  have ht : Tryz.prog.elem 45 = 5 := by kernel_rfl
  rw [run_slice_lh w 45 A n c (by rw [ht]; exact Tryz.underlying45) .i64 .i64 (80 * (k : Int)) (80 * (k : Int) + 80) (by omega) (by omega) (by omega), u8_sizeZ]
  simp only [Result.andThen, sliced]
  rw [show (80 * (k : Int)).toNat = 80 * k by omega, show (80 * (k : Int) + 80).toNat = 80 * k + 80 by omega]
  unfold pcV pcA
  rw [show min 80 (n - 80 * k) = 80 * k + 80 - 80 * k by omega]
  simp
theorem zcut_end (A : Option Addr) (n c k : Nat) (h : 80 * k ≤ n) (h2 : n ≤ 80 * k + 80) (w : World) : (Instr.slice 45 (.slice A n c) (some (.int .i64 (80 * (k : Int)))) none none).run Tryz.prog w = .ok (pcV A n c k) w := by
  have ht : Tryz.prog.elem 45 = 5 := by kernel_rfl
  rw [run_slice_l w 45 A n c (by rw [ht]; exact Tryz.underlying45) .i64 (80 * (k : Int)) (by omega) (by omega), u8_sizeZ]
  simp only [Result.andThen, sliced]
  rw [show (80 * (k : Int)).toNat = 80 * k by omega]
  unfold pcV pcA
  rw [show min 80 (n - 80 * k) = n - 80 * k by omega]
  simp
abbrev PcIn (n : Nat) := { k : Nat // k < chunkN n }
def encPc (A : Option Addr) (n c : Nat) (x : PcIn n) : Array Value := #[pcV A n c x.1]
set_option maxHeartbeats 400000 in
theorem zpieces_of (A : Option Addr) (n c : Nat) (w : World) :
    Calls Tryz.prog 186 #[.slice A n c] w fun e w' => e = .returned (.func (.func 238) #[] #[.pointer (some ⟨w.heap.size, 0, none⟩)]) ∧ w' = w.alloc (.cells #[.slice A n c] 45) := by
  go_enter Tryz.func186, Tryz.ntmps186
  go_wp2
  go_ret
  exact ⟨rfl, rfl⟩
set_option maxHeartbeats 1600000 in
theorem zpieces1_in (n0 : Nat) (hn0 : 1 ≤ n0) (l bl : Nat) (G : Nat → Prop) (A : Option Addr) (n c : Nat) (hn9 : n ≤ 640) (hnc : n ≤ c) (J Jx : List (PcIn n) → World → Prop) (W0 V : World) (hV : Mod G W0 V)
    (hGf : ¬ G bl) (hcl : V.cell? ⟨bl, 0, none⟩ = some (.slice A n c))
    (hY : ∀ pre x W, J pre W → pre.length < chunkN n → YieldAt Fence.wide (n0 - 1) Tryz.prog l (encPc A n c x) W fun e W' =>
      (e = .returned (.bool true) ∧ J (pre ++ [x]) W' ∧ Mod G W W') ∨ (e = .returned (.bool false) ∧ Jx (pre ++ [x]) W')) (h0 : J [] V) :
    CallsIn Fence.wide n0 Tryz.prog 238 #[.func (.yield l) #[] #[], .pointer (some ⟨bl, 0, none⟩)] V fun e W' => (∃ v, e = .returned v) ∧
      ((∃ ys : List (PcIn n), ys.map (fun x => x.1) = List.range (chunkN n) ∧ J ys W') ∨ (∃ pre : List (PcIn n), True ∧ Jx pre W')) := by
  have HC := Lib.hid hcl
  have HG := Lib.hid hGf
  have HV := Lib.hid hV
  have HY := Lib.hid hY
  have HN : Hid ((1 ≤ chunkN n ∧ chunkN n ≤ 8 ∧ n ≤ 80 * chunkN n ∧ (2 ≤ chunkN n → 80 * (chunkN n - 1) < n))) := Lib.hid (chunkN_in hn9)
  clear hcl hV hY hGf
  refine callsIn_of_wp Tryz.func238 rfl trivial ?_ rfl
  simp only [Tryz.ntmps238, List.size_toArray, List.length_cons, List.length_nil, Nat.reduceAdd, Nat.reduceSub, Array.replicate_succ, Array.replicate_zero, List.push_toArray, List.append_toArray, List.nil_append, List.cons_append]
  gi_wp2
  gi_loopw [3] (fun i wr => ∃ (j : Nat) (pre : List (PcIn n)), j < chunkN n ∧ i = .int .i64 (80 * (j : Int)) ∧ Hid (pre.map (fun x => x.1) = List.range j) ∧ Hid (J pre wr) ∧ Hid (Mod G V wr)) (fun i _ => 1000 - (intOf i).toNat)
  case atStart => exact ⟨0, [], by have := HN.out; omega, rfl, Lib.hid rfl, Lib.hid h0, Lib.hid (Mod.refl _ _)⟩
  case round =>
    obtain ⟨j, pre, hj, rfl, HP, HJ, HM⟩ := hrel
    have hc0 : wr.cell? ⟨bl, 0, none⟩ = some (.slice A n c) := mod_cell HM.out HG.out HC.out
    have hj8 : j < 8 := by have := HN.out; omega
    obtain ⟨fn, tmps, assign, body, hy, hR⟩ := HY.out pre ⟨j, hj⟩ wr HJ.out (by have := congrArg List.length HP.out; simp at this; omega)
    have HR := Lib.hid hR
    have hy2 : (Instr.yield l #[pcV A n c j]).run Tryz.prog wr = .ok (.round l fn tmps assign body) wr := hy
    clear hR hy
    by_cases hlt : 80 < (n : Int) - 80 * (j : Int)
    · have hj2 : j + 1 < chunkN n := by have := HN.out; omega
      have hcut := fun W => zcut_mid A n c j (by omega) hnc W
      generalize pcV A n c j = pv at hcut hy2
      gi_wp2
      refine HR.out.mono ?_
      rintro e W4 (⟨rfl, hJ4, hM4⟩ | ⟨rfl, hJ4⟩)
      · have HJ4 := Lib.hid hJ4
        have HM4 : Hid (Mod G V W4) := Lib.hid (HM.out.trans hM4 fun _ hi => .inl hi)
        clear hJ4 hM4 hy2 hc0 hcut
        gi_wp2
        go_roundw
        case rel => exact ⟨j + 1, _, hj2, by go_num, Lib.hid (by rw [List.map_append, HP.out, List.range_succ]; rfl), HJ4, HM4⟩
        case measure => simp [intOf]; omega
      · have HJ4 := Lib.hid hJ4
        clear hJ4 hy2 hc0 hcut
        gi_wp2
        refine bodyPost_ret (results_none rfl _ _ _) rfl ?_
        exact ⟨⟨_, rfl⟩, .inr ⟨_, trivial, HJ4.out⟩⟩
    · have hj2 : j + 1 = chunkN n := by
        have h8 := HN.out
        by_cases h : j + 1 < chunkN n
        · have := h8.2.2.2 (by omega)
          have : 80 * (j + 1) ≤ 80 * (chunkN n - 1) := Nat.mul_le_mul_left _ (by omega)
          omega
        · omega
      have hjn : 80 * j ≤ n := by
        have h8 := HN.out
        by_cases h : j = 0
        · omega
        · have := h8.2.2.2 (by omega)
          have : 80 * j = 80 * (chunkN n - 1) := by rw [← hj2]; omega
          omega
      have hcut := fun W => zcut_end A n c j hjn (by omega) W
      generalize pcV A n c j = pv at hcut hy2
      gi_wp2
      refine HR.out.mono ?_
      rintro e W4 (⟨rfl, hJ4, hM4⟩ | ⟨rfl, hJ4⟩)
      · have HJ4 := Lib.hid hJ4
        clear hJ4 hM4 hy2 hc0 hcut
        gi_wp2
        go_end0
        exact ⟨⟨_, rfl⟩, .inl ⟨_, by rw [List.map_append, HP.out, show List.range (chunkN n) = List.range (j + 1) by rw [hj2], List.range_succ]; rfl, HJ4.out⟩⟩
      · have HJ4 := Lib.hid hJ4
        clear hJ4 hy2 hc0 hcut
        gi_wp2
        go_end0
        exact ⟨⟨_, rfl⟩, .inr ⟨_, trivial, HJ4.out⟩⟩
theorem zpieces_stops (n0 : Nat) (hn0 : 1 ≤ n0) (bl : Nat) (G : Nat → Prop) (A : Option Addr) (n c : Nat) (hn9 : n ≤ 640) (hnc : n ≤ c) (W0 : World) (hGf : ¬ G bl) (hcl : W0.cell? ⟨bl, 0, none⟩ = some (.slice A n c)) :
    SeqStopsK Fence.wide n0 Tryz.prog 238 #[.pointer (some ⟨bl, 0, none⟩)] (encPc A n c) (Mod G) (fun ys => ys.map (fun x => x.1) = List.range (chunkN n)) (fun _ => True) (chunkN n) W0 := fun l J Jx V hV hJ _ hY h0 => by
  have hx : Ext W0 V := hV
  have hm : Mod G W0 V := Mod.of_ext hx
  exact zpieces1_in n0 hn0 l bl G A n c hn9 hnc J Jx W0 V hm hGf (mod_cell hm hGf hcl) hY h0
end
section
open Go
theorem rowsIn_round {n l : Nat} {P : Program} {row : String} {args : Array Value} {w : World} {R : Value → World → Prop} (h : Rows P row args w R) : RowsIn (Fence.wide.inRound l) n P row args w R :=
  fun c cs _ => let ⟨v, w', r, s⟩ := h c cs; ⟨v, w', r, (stepsIn_wide.2 s : StepsIn (Machine.fenced P Fence.wide) P _ _)⟩
theorem op_in_round {n l : Nat} {P : Program} {o : Oper} {a : Act} {w : World} {K : Act → World → Prop} {Q : Exit → Act → World → Prop} (hd : ∀ c, o.op ≠ .defer c) (h : Oper.wp P o a w K Q) : Oper.wpIn (Fence.wide.inRound l) n P o a w K Q := by
  refine ⟨fun _ _ => trivial, ?_⟩
  rw [Fence.inRound_round, Oper.semAt_some l _ _ hd]
  unfold Oper.wp at h
  generalize (execOp a.eval o).run P w = r at h ⊢
  have hdp : (Fence.wide.inRound l).depth.isSome = true → 1 ≤ n := fun e => by cases e
  cases r with
  | ok x w' =>
    cases x <;> simp only [Oper.upon, Oper.uponIn] at h ⊢ <;>
      first
        | exact h
        | exact ⟨hdp, CallsIn.inRound l (callsIn_wide.2 h)⟩
        | exact ⟨hdp, rowsIn_round h⟩
        | exact h.elim
  | halt x w' => cases x <;> simp only [Oper.upon, Oper.uponIn] at h ⊢ <;> exact h
theorem step_in_round {n l : Nat} {P : Program} {o : Oper} {a : Act} {w : World} {K : Act → World → Prop} {Q : Exit → Act → World → Prop} {b : Bool} (hd : ∀ c, o.op ≠ .defer c) (h : if b = true then Oper.wp P o a w K Q else K (a.put o.dst undef) w) :
    if b = true then Oper.wpIn (Fence.wide.inRound l) n P o a w K Q else (∀ f, o.about P w a.eval = some f → (Fence.wide.inRound l).fn f) ∧ K (a.put o.dst undef) w := by
  cases b with
  | true => exact op_in_round hd h
  | false => exact ⟨fun _ _ => trivial, h⟩
end
section
open Go Go.RowKit Go.ChangeShapes Go.WideShapes Go.Deep
structure Lst where
  A : Option Addr := none
  n : Nat := 0
  c : Nat := 0
  l : List Nat := []
instance : Inhabited Lst := ⟨{}⟩
def Lst.Ok (a : Lst) (w : World) (B : Nat) : Prop := Bs w B a.A a.n a.c a.l
structure Lsts (w : World) (B : Nat) (A : Option Addr) (n c : Nat) (l : List Lst) : Prop where
  len : l.length = n
  cap : n ≤ c
  most : c ≤ 9223372036854775807
  each : ∀ a ∈ l, a.Ok w B
  rd : 0 < n → ∃ g o, A = some ⟨g, o, none⟩ ∧ g < B ∧ ∀ j a, l[j]? = some a → w.cell? ⟨g, o + j, none⟩ = some (.slice a.A a.n a.c)
  nil_ : A = none → c = 0
theorem Lsts.below {w w' : World} {B : Nat} {A : Option Addr} {n c : Nat} {l : List Lst} (h : Lsts w B A n c l) (hb : Below B w w') : Lsts w' B A n c l :=
  ⟨h.len, h.cap, h.most, fun a ha => (h.each a ha).below hb, fun hn => by
    obtain ⟨g, o, e, hg, hc⟩ := h.rd hn
    exact ⟨g, o, e, hg, fun j a ha => (hb.cell (p := ⟨g, o + j, none⟩) hg).trans (hc j a ha)⟩, h.nil_⟩
theorem Lsts.more {w : World} {B B' : Nat} {A : Option Addr} {n c : Nat} {l : List Lst} (h : Lsts w B A n c l) (hB : B ≤ B') : Lsts w B' A n c l :=
  ⟨h.len, h.cap, h.most, fun a ha => (h.each a ha).more hB, fun hn => by
    obtain ⟨g, o, e, hg, hc⟩ := h.rd hn
    exact ⟨g, o, e, by omega, hc⟩, h.nil_⟩
theorem Lsts.at_ {w : World} {B : Nat} {A : Option Addr} {n c : Nat} {l : List Lst} (h : Lsts w B A n c l) {j : Nat} (hj : j < n) : ∃ g o a, A = some ⟨g, o, none⟩ ∧ g < B ∧ l[j]? = some a ∧ Bs w B a.A a.n a.c a.l ∧
    w.cell? ⟨g, o + j, none⟩ = some (.slice a.A a.n a.c) := by
  obtain ⟨g, o, e, hg, hc⟩ := h.rd (by omega)
  have hj' : j < l.length := by rw [h.len]; exact hj
  have ha : l[j]? = some l[j] := List.getElem?_eq_getElem hj'
  exact ⟨g, o, l[j], e, hg, ha, h.each _ (List.getElem_mem hj'), hc j _ ha⟩
section
variable {H : Type} {enc : TypeId × Value → H} {P : Program} {w : World} {base : Nat} {spare : Nat → Bool} {held : Bool}
theorem trod_lists {t e b : TypeId} {fuel : Nat} {cs : List Value} {x : DataW H × List MemPlace} (ht : P.underlying t = some (.slice e)) (he : P.underlying e = some (.slice b)) (hb : P.underlying b = some (.int .u8)) (hce : P.cellsOf e = 1) (hcb : P.cellsOf b = 1)
    (hsp : ∀ g, spare g = true) (h : DataW.trod enc P w base spare held fuel t cs = some x) : ∃ (A : Option Addr) (n c : Nat) (l : List Lst), cs = [.slice A n c] ∧ Lsts w w.heap.size A n c l := by
  rcases open_slice1 ht hce h with ⟨rfl, _⟩ | ⟨a, len, cap, m, n, V, D, Pl, rfl, _, hl, hm, hmm, _, hi⟩
  · exact ⟨none, 0, 0, [], rfl, rfl, Nat.le_refl _, by omega, fun a ha => (by cases ha), fun h => absurd h (by omega), fun _ => rfl⟩
  · have hle : len ≤ m := by rw [hmm]; split <;> omega
    have each : ∀ i, i < len → ∃ q : Lst, w.cell? (a.add i) = some (.slice q.A q.n q.c) ∧ q.Ok w w.heap.size := fun i hil => by
      obtain ⟨h1, h2⟩ := hi i (by omega)
      obtain ⟨A, k, c, l, hcs, hok⟩ := trod_bytes he hb hcb hsp h2
      injection hcs with hcs
      rw [hcs] at h1
      exact ⟨⟨A, k, c, l⟩, h1, hok⟩
    obtain ⟨f, hf⟩ := choose_lt each
    refine ⟨some a, len, cap, (List.range len).map f, rfl, by simp, hl, by unfold maxLen at hm; exact hm, fun b hb => ?_, fun hn => ?_, fun h => by cases h⟩
    · obtain ⟨i, hil, rfl⟩ := List.mem_map.1 hb
      exact (hf i (List.mem_range.1 hil)).2
    · obtain ⟨g, o, spot⟩ := a
      have hc := (hf 0 hn).1
      have hspot : spot = none := by simpa [Addr.add] using World.cell?_spot hc
      subst hspot
      refine ⟨g, o, rfl, ?_, fun j b hb => ?_⟩
      · have := World.block_lt_of_cell? w _ hc
        simpa [Addr.add] using this
      · rw [List.getElem?_map] at hb
        obtain ⟨i, hi2, rfl⟩ := Option.map_eq_some_iff.1 hb
        obtain ⟨hjl, hji⟩ := List.getElem?_eq_some_iff.1 hi2
        simp at hjl hji
        subst hji
        have := (hf j hjl).1
        rwa [Addr.add_lit] at this
theorem open_lists {t e b : TypeId} (ht : P.underlying t = some (.slice e)) (he : P.underlying e = some (.slice b)) (hb : P.underlying b = some (.int .u8)) (hce : P.cellsOf e = 1) (hcb : P.cellsOf b = 1) {r : Reach} {b0 : Nat} {v : Value} {d : DataW H} {p : List MemPlace}
    (hv : Value.okWide P w r b0 t v) (h : DataW.Trod enc P w base (fun _ => true) held t v d p) : ∃ (A : Option Addr) (n c : Nat) (l : List Lst), v = .slice A n c ∧ Lsts w w.heap.size A n c l := by
  obtain ⟨A, n, c, rfl⟩ := okWide_slice ht hv
  obtain ⟨fuel, hf⟩ := h
  obtain ⟨A', n', c', l, hcs, hl⟩ := trod_lists ht he hb hce hcb (fun _ => rfl) hf
  simp [Value.cells] at hcs
  obtain ⟨rfl, rfl, rfl⟩ := hcs
  exact ⟨_, _, _, l, rfl, hl⟩
end
end
end Go.Proofs.YtgcinagkbdcgiaaGreatDoor
