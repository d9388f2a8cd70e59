/-
  Plain facts on copies of a cell: which is loaded, by what both places hold; what Store and Heal leave.
-/
import Derived.Test.YtgcinagkbdcgiaaGreatDoorR00
import Derived.Test.YtgcinagkbdcgiaaGreatDoorR01
import Derived.Test.YtgcinagkbdcgiaaGreatDoorR05
import Derived.Test.YtgcinagkbdcgiaaGreatDoorR10
import Derived.Test.YtgcinagkbdcgiaaGreatDoorR11
import Derived.Test.YtgcinagkbdcgiaaGreatDoorR12
import Derived.Test.YtgcinagkbdcgiaaGreatDoorR13
import Derived.Deep.RegionHeld3
import Derived.LoopN
namespace Go.Proofs.YtgcinagkbdcgiaaGreatDoor
set_option maxRecDepth 100000
section
structure Cop (x : List Nat) (g p : Int) (v c : Nat) (b : List Nat) : Prop where
  st : stM x 0 g p = 1
  v3 : mfl x 0 g p 3 = v
  c4 : mfl x 0 g p 4 = c
  bd : mbl x 0 g p = b
theorem sealC_sect {r g p : Int} {i c : Nat} {b : List Nat} (h : mayB r g p (i : Int) (c : Int) = true) (hn : b.length ≤ 43) (hb : ∀ x ∈ b, x < 256) : Sect (sealC r g p i c b) := by
  have hE := seal_one (n := b.length) h hn
  refine ⟨?_, sealL_lt hb⟩
  have := (sealL_len hE).1
  unfold sealC
  rw [this]
  rfl
theorem no_copy {x : List Nat} {r g p : Int} (h : stM x r g p ≠ 1) (k : Nat) : mfl x r g p k = 0 := by
  unfold mfl
  split
  · rename_i hm
    exact absurd (by unfold stM; rw [if_pos (by unfold mineB at hm; rw [Bool.and_eq_true] at hm; exact hm.1), if_pos hm]) h
  · rfl
theorem z64_blank (r g p : Int) : stM z64 r g p = 0 := by
  have hz : zeroB z64 = true := by decide
  rw [(mine_bad (zero_bad hz)).1]
  exact stN_blank (by decide) hz
structure Ldd (g : Int) (x y : List Nat) (E : Int) (v : Nat) (b : List Nat) : Prop where
  e : cellE 0 g x y = E
  v : cellF 0 g x y 3 = v
  b : cellB 0 g x y = b
section
variable {g : Int} {x y : List Nat} {v c u d : Nat} {b e : List Nat}
theorem at0 (h : Cop x g 0 v c b) (hy : mfl y 0 g 1 3 ≤ v) : atC 0 g x y = 0 := by
  unfold atC pickP lead0
  rw [h.st, h.v3, decide_eq_true hy]
  rfl
theorem atm (hx : stM x 0 g 0 ≠ 1) (hy : stM y 0 g 1 ≠ 1) : atC 0 g x y = -1 := by
  unfold atC pickP lead0 lead1
  rw [decide_eq_false hx, decide_eq_false hy]
  rfl
theorem ldd0 (h : Cop x g 0 v c b) (hy : mfl y 0 g 1 3 ≤ v) : Ldd g x y 0 v b := by
  have ha := at0 h hy
  exact ⟨by unfold cellE; rw [ha, if_neg (by omega)], by unfold cellF; rw [if_pos ha, h.v3], by unfold cellB; rw [if_pos ha, h.bd]⟩
theorem ldd_blank (hx : stM x 0 g 0 = 0) (hy : stM y 0 g 1 = 0) : Ldd g x y 0 0 [] := by
  have ha := atm (g := g) (x := x) (y := y) (by omega) (by omega)
  refine ⟨?_, by unfold cellF; rw [ha]; rfl, by unfold cellB; rw [ha]; rfl⟩
  unfold cellE blankC pickP
  rw [hx, if_neg (by simp)]
end
def secV (g : Int) (p : Nat) : Nat := (2 * (g - 1)).toNat + p
theorem secV_first {g : Int} (hg : g = 1 ∨ g = 2) {p : Nat} (hp : p ≤ 1) : firstS g (p : Int) = (secV g p : Nat) := by
  have : p = 0 ∨ p = 1 := by omega
  rcases hg with rfl | rfl <;> rcases this with rfl | rfl <;> decide
theorem secV_lt {g : Int} (hg : g = 1 ∨ g = 2) {p : Nat} (hp : p ≤ 1) : secV g p < 156 := by
  unfold secV
  rcases hg with rfl | rfl <;> omega
theorem secV_ne {g : Int} : secV g 0 ≠ secV g 1 := by unfold secV; omega
structure Ld (m : DM) (g : Int) (v : Nat) (b : List Nat) : Prop where
  e : m.loadE 0 g = 0
  v : m.loadV 0 g = v
  b : m.loadB 0 g = b
section
variable {m : DM} {pw : Int} {g : Int} {v : Nat} {b : List Nat}
theorem CD.cb (h : CD m pw) (hg : g = 1 ∨ g = 2) {p : Nat} (hp : p ≤ 1) : m.cb g (p : Int) = m.hold (secV g p) := by
  unfold DM.cb
  rw [secV_first hg hp]
  exact h.read (secV_lt hg hp)
theorem CD.cb0 (h : CD m pw) (hg : g = 1 ∨ g = 2) : m.cb g 0 = m.hold (secV g 0) := h.cb hg (p := 0) (by omega)
theorem CD.cb1 (h : CD m pw) (hg : g = 1 ∨ g = 2) : m.cb g 1 = m.hold (secV g 1) := h.cb hg (p := 1) (by omega)
theorem CD.loadE (h : CD m pw) (hg : g = 1 ∨ g = 2) : m.loadE 0 g = cellE 0 g (m.hold (secV g 0)) (m.hold (secV g 1)) := by
  unfold DM.loadE
  rw [if_neg (by rw [h.up]; simp), h.cb0 hg, h.cb1 hg]
theorem CD.ld (h : CD m pw) (hg : g = 1 ∨ g = 2) (k : Ldd g (m.hold (secV g 0)) (m.hold (secV g 1)) 0 v b) : Ld m g v b := by
  have he : m.loadE 0 g = 0 := by rw [h.loadE hg]; exact k.e
  refine ⟨he, ?_, ?_⟩
  · unfold DM.loadV
    rw [if_pos he, h.cb0 hg, h.cb1 hg]
    exact k.v
  · unfold DM.loadB
    rw [if_pos he, h.cb0 hg, h.cb1 hg]
    exact k.b
end
def Two (m : DM) (g : Int) (v : Nat) (b : List Nat) : Prop :=
  (v = 0 ∧ b = [] ∧ m.hold (secV g 0) = z64 ∧ m.hold (secV g 1) = z64) ∨ (1 ≤ v ∧ ∃ c d, Cop (m.hold (secV g 0)) g 0 v c b ∧ Cop (m.hold (secV g 1)) g 1 v d b)
theorem Two.of_eq {m m' : DM} {g : Int} {v : Nat} {b : List Nat} (h : Two m g v b) (h0 : m'.hold (secV g 0) = m.hold (secV g 0)) (h1 : m'.hold (secV g 1) = m.hold (secV g 1)) : Two m' g v b := by
  unfold Two
  rw [h0, h1]
  exact h
theorem Two.ldd {m : DM} {g : Int} {v : Nat} {b : List Nat} (h : Two m g v b) : Ldd g (m.hold (secV g 0)) (m.hold (secV g 1)) 0 v b := by
  rcases h with ⟨rfl, rfl, h0, h1⟩ | ⟨hv, c, d, h0, h1⟩
  · rw [h0, h1]
    exact ldd_blank (z64_blank 0 g 0) (z64_blank 0 g 1)
  · exact ldd0 h0 (by rw [h1.v3]; omega)
theorem Two.store {m : DM} {pw : Int} {g : Int} {v : Nat} {b : List Nat} (hd : CD m pw) (hg : g = 1 ∨ g = 2) (h : Two m g v b) (hv : v < 1099511627776) {c : Nat} (hc : 1 ≤ c ∧ c ≤ 1099511627776) {body : List Nat} (hn : body.length ≤ 43) :
    ∃ f o : Nat, f ≤ 1 ∧ o = 1 - f ∧ (v = 0 → f = 0) ∧ (1 ≤ v → f = 1) ∧ m.store 0 g (c : Int) body = m.two (secV g f) (secV g o) (sealC 0 g f (v + 1) c body) (sealC 0 g o (v + 1) c body) := by
  have hl := hd.ld hg h.ldd
  have hE : m.storeE 0 g (c : Int) body.length = 0 := by
    unfold DM.storeE
    rw [if_neg (by omega), if_neg (by omega), if_neg (by rw [hl.e]; simp), if_neg (by rw [hl.v]; omega)]
  have hs : m.store 0 g (c : Int) body = m.puts2 0 g (firstP 0 g (m.cb g 0) (m.cb g 1)) (v + 1) c body := by
    unfold DM.store
    rw [if_neg (by rw [hE]; simp), hl.v, Int.toNat_natCast]
  rw [hs, hd.cb0 hg, hd.cb1 hg]
  rcases h with ⟨rfl, rfl, h0, h1⟩ | ⟨hv1, c0, d0, h0, h1⟩
  · refine ⟨0, 1, by omega, rfl, fun _ => rfl, fun h => absurd h (by omega), ?_⟩
    have ha := atm (g := g) (x := z64) (y := z64) (by rw [z64_blank]; omega) (by rw [z64_blank]; omega)
    have hf : firstP 0 g (m.hold (secV g 0)) (m.hold (secV g 1)) = 0 := by unfold firstP; rw [h0, h1, if_neg (by rw [ha]; omega)]
    rw [hf]
    unfold DM.puts2 DM.two
    rw [show firstS g 0 = (secV g 0 : Nat) from secV_first hg (p := 0) (by omega), show firstS g (otherP 0) = (secV g 1 : Nat) from secV_first hg (p := 1) (by omega)]
    rfl
  · refine ⟨1, 0, by omega, rfl, fun h => absurd h (by omega), fun _ => rfl, ?_⟩
    have ha := at0 h0 (y := m.hold (secV g 1)) (by rw [h1.v3]; omega)
    have hf : firstP 0 g (m.hold (secV g 0)) (m.hold (secV g 1)) = 1 := by unfold firstP; rw [if_pos ha]
    rw [hf]
    unfold DM.puts2 DM.two
    rw [show firstS g 1 = (secV g 1 : Nat) from secV_first hg (p := 1) (by omega), show firstS g (otherP 1) = (secV g 0 : Nat) from secV_first hg (p := 0) (by omega)]
    rfl
end
section
variable {r : Int}
structure CopU (r : Int) (x : List Nat) (g p : Int) (v c : Nat) (b : List Nat) : Prop where
  st : stM x r g p = 1
  v3 : mfl x r g p 3 = v
  c4 : mfl x r g p 4 = c
  bd : mbl x r g p = b
theorem cop_sealU {g p : Int} {i c : Nat} {b : List Nat} (h : mayB r g p (i : Int) (c : Int) = true) (hn : b.length ≤ 43) : CopU r (sealC r g p i c b) g p i c b := by
  obtain ⟨h1, _, h3, _, _, _, h4, h5⟩ := seal_mine (seal_one (n := b.length) h hn)
  exact ⟨h1, Int.ofNat.inj h4, Int.ofNat.inj h5, h3⟩
structure LddU (r : Int) (g : Int) (x y : List Nat) (E : Int) (v : Nat) (b : List Nat) : Prop where
  e : cellE r g x y = E
  v : cellF r g x y 3 = v
  b : cellB r g x y = b
section
variable {g : Int} {x y : List Nat} {v c u d : Nat} {b e : List Nat}
theorem at0U (h : CopU r x g 0 v c b) (hy : mfl y r g 1 3 ≤ v) : atC r g x y = 0 := by
  unfold atC pickP lead0
  rw [h.st, h.v3, decide_eq_true hy]
  rfl
theorem at1U (h : CopU r y g 1 v c b) (hx : mfl x r g 0 3 < v ∨ stM x r g 0 ≠ 1) : atC r g x y = 1 := by
  have hx2 : lead0 r g x y = false := by
    unfold lead0
    rw [h.v3]
    rcases hx with hx | hx
    · rw [decide_eq_false (p := v ≤ _) (by omega)]; simp
    · rw [decide_eq_false hx]; rfl
  have hx3 : mfl x r g 0 3 ≤ v := by
    rcases hx with hx | hx
    · omega
    · rw [no_copy hx]; omega
  unfold atC pickP
  rw [hx2]
  unfold lead1
  rw [h.st, h.v3, decide_eq_true hx3]
  rfl
theorem atmU (hx : stM x r g 0 ≠ 1) (hy : stM y r g 1 ≠ 1) : atC r g x y = -1 := by
  unfold atC pickP lead0 lead1
  rw [decide_eq_false hx, decide_eq_false hy]
  rfl
theorem ldd0U (h : CopU r x g 0 v c b) (hy : mfl y r g 1 3 ≤ v) : LddU r g x y 0 v b := by
  have ha := at0U h hy
  exact ⟨by unfold cellE; rw [ha, if_neg (by omega)], by unfold cellF; rw [if_pos ha, h.v3], by unfold cellB; rw [if_pos ha, h.bd]⟩
theorem ldd1U (h : CopU r y g 1 v c b) (hx : mfl x r g 0 3 < v ∨ stM x r g 0 ≠ 1) : LddU r g x y 0 v b := by
  have ha := at1U h hx
  exact ⟨by unfold cellE; rw [ha, if_neg (by omega)], by unfold cellF; rw [if_neg (by rw [ha]; omega), if_pos ha, h.v3], by unfold cellB; rw [if_neg (by rw [ha]; omega), if_pos ha, h.bd]⟩
theorem ldd_blankU (hx : stM x r g 0 = 0) (hy : stM y r g 1 = 0) : LddU r g x y 0 0 [] := by
  have ha := atmU (r := r) (g := g) (x := x) (y := y) (by omega) (by omega)
  refine ⟨?_, by unfold cellF; rw [ha]; rfl, by unfold cellB; rw [ha]; rfl⟩
  unfold cellE blankC pickP
  rw [hx, if_neg (by simp)]
end
structure LdU (r : Int) (m : DM) (g : Int) (v : Nat) (b : List Nat) : Prop where
  e : m.loadE r g = 0
  v : m.loadV r g = v
  b : m.loadB r g = b
section
variable {m : DM} {pw : Int} {g : Int} {v : Nat} {b : List Nat}
theorem CD.loadEU (h : CD m pw) (hg : g = 1 ∨ g = 2) : m.loadE r g = cellE r g (m.hold (secV g 0)) (m.hold (secV g 1)) := by
  unfold DM.loadE
  rw [if_neg (by rw [h.up]; simp), h.cb0 hg, h.cb1 hg]
theorem CD.ldU (h : CD m pw) (hg : g = 1 ∨ g = 2) (k : LddU r g (m.hold (secV g 0)) (m.hold (secV g 1)) 0 v b) : LdU r m g v b := by
  have he : m.loadE r g = 0 := by rw [h.loadEU hg]; exact k.e
  refine ⟨he, ?_, ?_⟩
  · unfold DM.loadV
    rw [if_pos he, h.cb0 hg, h.cb1 hg]
    exact k.v
  · unfold DM.loadB
    rw [if_pos he, h.cb0 hg, h.cb1 hg]
    exact k.b
end
def TwoU (r : Int) (m : DM) (g : Int) (v : Nat) (b : List Nat) : Prop :=
  (v = 0 ∧ b = [] ∧ m.hold (secV g 0) = z64 ∧ m.hold (secV g 1) = z64) ∨ (1 ≤ v ∧ ∃ c d, CopU r (m.hold (secV g 0)) g 0 v c b ∧ CopU r (m.hold (secV g 1)) g 1 v d b)
theorem TwoU.of_eq {m m' : DM} {g : Int} {v : Nat} {b : List Nat} (h : TwoU r m g v b) (h0 : m'.hold (secV g 0) = m.hold (secV g 0)) (h1 : m'.hold (secV g 1) = m.hold (secV g 1)) : TwoU r m' g v b := by
  unfold TwoU
  rw [h0, h1]
  exact h
theorem TwoU.ldd {m : DM} {g : Int} {v : Nat} {b : List Nat} (h : TwoU r m g v b) : LddU r g (m.hold (secV g 0)) (m.hold (secV g 1)) 0 v b := by
  rcases h with ⟨rfl, rfl, h0, h1⟩ | ⟨hv, c, d, h0, h1⟩
  · rw [h0, h1]
    exact ldd_blankU (z64_blank r g 0) (z64_blank r g 1)
  · exact ldd0U h0 (by rw [h1.v3]; omega)
theorem new_twoU {g : Int} (hg : g = 1 ∨ g = 2) : TwoU r (DM.new 156) g 0 [] := .inl ⟨rfl, rfl, new_hold (secV_lt hg (by omega)), new_hold (secV_lt hg (by omega))⟩
theorem TwoU.store {m : DM} {pw : Int} {g : Int} {v : Nat} {b : List Nat} (hd : CD m pw) (hg : g = 1 ∨ g = 2) (h : TwoU r m g v b) (hv : v < 1099511627776) {c : Nat} (hc : 1 ≤ c ∧ c ≤ 1099511627776) {body : List Nat} (hn : body.length ≤ 43) :
    ∃ f o : Nat, f ≤ 1 ∧ o = 1 - f ∧ (v = 0 → f = 0) ∧ (1 ≤ v → f = 1) ∧ m.store r g (c : Int) body = m.two (secV g f) (secV g o) (sealC r g f (v + 1) c body) (sealC r g o (v + 1) c body) := by
  have hl := hd.ldU hg h.ldd
  have hE : m.storeE r g (c : Int) body.length = 0 := by
    unfold DM.storeE
    rw [if_neg (by omega), if_neg (by omega), if_neg (by rw [hl.e]; simp), if_neg (by rw [hl.v]; omega)]
  have hs : m.store r g (c : Int) body = m.puts2 r g (firstP r g (m.cb g 0) (m.cb g 1)) (v + 1) c body := by
    unfold DM.store
    rw [if_neg (by rw [hE]; simp), hl.v, Int.toNat_natCast]
  rw [hs, hd.cb0 hg, hd.cb1 hg]
  rcases h with ⟨rfl, rfl, h0, h1⟩ | ⟨hv1, c0, d0, h0, h1⟩
  · refine ⟨0, 1, by omega, rfl, fun _ => rfl, fun h => absurd h (by omega), ?_⟩
    have ha := atmU (r := r) (g := g) (x := z64) (y := z64) (by rw [z64_blank]; omega) (by rw [z64_blank]; omega)
    have hf : firstP r g (m.hold (secV g 0)) (m.hold (secV g 1)) = 0 := by unfold firstP; rw [h0, h1, if_neg (by rw [ha]; omega)]
    rw [hf]
    unfold DM.puts2 DM.two
    rw [show firstS g 0 = (secV g 0 : Nat) from secV_first hg (p := 0) (by omega), show firstS g (otherP 0) = (secV g 1 : Nat) from secV_first hg (p := 1) (by omega)]
    rfl
  · refine ⟨1, 0, by omega, rfl, fun h => absurd h (by omega), fun _ => rfl, ?_⟩
    have ha := at0U h0 (y := m.hold (secV g 1)) (by rw [h1.v3]; omega)
    have hf : firstP r g (m.hold (secV g 0)) (m.hold (secV g 1)) = 1 := by unfold firstP; rw [if_pos ha]
    rw [hf]
    unfold DM.puts2 DM.two
    rw [show firstS g 1 = (secV g 1 : Nat) from secV_first hg (p := 1) (by omega), show firstS g (otherP 1) = (secV g 0 : Nat) from secV_first hg (p := 0) (by omega)]
    rfl
theorem may_newU (hr : 0 ≤ r ∧ r < 7) {g : Int} (hg : g = 1 ∨ g = 2) {p : Nat} (hp : p ≤ 1) {v c : Nat} (hv : v < 1099511627776) (hc : 1 ≤ c ∧ c ≤ 1099511627776) : mayB r g (p : Int) ((v + 1 : Nat) : Int) (c : Int) = true := may_store (by omega) hg (by omega) hv (by omega)
end
section
variable {r : Int}
def SomeU (r : Int) (m : DM) (g : Int) (v : Nat) (b : List Nat) : Prop :=
  (v = 0 ∧ b = [] ∧ m.hold (secV g 0) = z64 ∧ m.hold (secV g 1) = z64) ∨ (1 ≤ v ∧ ∃ c, CopU r (m.hold (secV g 0)) g 0 v c b ∧ mfl (m.hold (secV g 1)) r g 1 3 ≤ v ∧ (mfl (m.hold (secV g 1)) r g 1 3 = v → mbl (m.hold (secV g 1)) r g 1 = b)) ∨ (1 ≤ v ∧ ∃ c, CopU r (m.hold (secV g 1)) g 1 v c b ∧ mfl (m.hold (secV g 0)) r g 0 3 < v)
theorem SomeU.ldd {m : DM} {g : Int} {v : Nat} {b : List Nat} (h : SomeU r m g v b) : LddU r g (m.hold (secV g 0)) (m.hold (secV g 1)) 0 v b := by
  rcases h with ⟨rfl, rfl, h0, h1⟩ | ⟨_, c, h0, h1, _⟩ | ⟨_, c, h1, h0⟩
  · rw [h0, h1]
    exact ldd_blankU (z64_blank r g 0) (z64_blank r g 1)
  · exact ldd0U h0 h1
  · exact ldd1U h1 (.inl h0)
theorem two_someU {m : DM} {g : Int} {v : Nat} {b : List Nat} (h : TwoU r m g v b) : SomeU r m g v b := by
  rcases h with ⟨rfl, rfl, h0, h1⟩ | ⟨hv, c, d, h0, h1⟩
  · exact .inl ⟨rfl, rfl, h0, h1⟩
  · exact .inr (.inl ⟨hv, c, h0, by rw [h1.v3]; omega, fun _ => h1.bd⟩)
theorem z64_vU (g p : Int) (k : Nat) : mfl z64 r g p k = 0 := no_copy (by rw [z64_blank]; omega) k
theorem TwoU.power {m : DM} {k : Nat} {g : Int} {v : Nat} {b : List Nat} (hr : 0 ≤ r ∧ r < 7) (hd : CD m (k : Int)) (hg : g = 1 ∨ g = 2) (h : TwoU r m g v b) (hv : v < 1099511627776) {c : Nat} (hc : 1 ≤ c ∧ c ≤ 1099511627776) {body : List Nat} (hn : body.length ≤ 43) (hb : ∀ x ∈ body, x < 256) (keep : List Bool) :
    ((m.store r g (c : Int) body).1 = if k < 4 then 5 else 0) ∧ ((m.store r g (c : Int) body).2.crash keep).1 = 0 ∧ ((m.store r g (c : Int) body).2.crash keep).2.start.1 = 0 ∧ CD ((m.store r g (c : Int) body).2.crash keep).2.start.2 (-1) ∧
      (SomeU r ((m.store r g (c : Int) body).2.crash keep).2.start.2 g v b ∨ SomeU r ((m.store r g (c : Int) body).2.crash keep).2.start.2 g (v + 1) body) ∧ (4 ≤ k → TwoU r ((m.store r g (c : Int) body).2.crash keep).2.start.2 g (v + 1) body) := by
  obtain ⟨f, o, hf, ho, f0, f1, hs⟩ := h.store hd hg hv hc hn
  have ho1 : o ≤ 1 := by omega
  obtain ⟨r1, r2, r3, r4, r5, r6⟩ := hd.two_power (a := secV g f) (b := secV g o) (secV_lt hg hf) (secV_lt hg ho1) (sealC_sect (may_newU hr hg hf hv hc) hn hb) (sealC_sect (may_newU hr hg ho1 hv hc) hn hb) keep
  rw [hs]
  have n0 := cop_sealU (may_newU hr hg (p := 0) (by omega) hv hc) hn
  have n1 := cop_sealU (may_newU hr hg (p := 1) (by omega) hv hc) hn
  have both : ∀ m2 : DM, (∀ t, m2.hold t = if t = secV g o then sealC r g o (v + 1) c body else if t = secV g f then sealC r g f (v + 1) c body else m.hold t) → TwoU r m2 g (v + 1) body := fun m2 hh => by
    refine .inr ⟨by omega, c, c, ?_, ?_⟩
    · have hff : f = 0 ∨ f = 1 := by omega
      rcases hff with rfl | rfl
      · obtain rfl : o = 1 := by omega
        rw [hh, if_neg secV_ne, if_pos rfl]; exact n0
      · obtain rfl : o = 0 := by omega
        rw [hh, if_pos rfl]; exact n0
    · have hff : f = 0 ∨ f = 1 := by omega
      rcases hff with rfl | rfl
      · obtain rfl : o = 1 := by omega
        rw [hh, if_pos rfl]; exact n1
      · obtain rfl : o = 0 := by omega
        rw [hh, if_neg (fun e => secV_ne e.symm), if_pos rfl]; exact n1
  refine ⟨r1, r2, r3, r4, ?_, fun hk => both _ (r6 hk)⟩
  cases r5 with
  | none hh => exact .inl (two_someU (h.of_eq (hh _) (hh _)))
  | both hh => exact .inr (two_someU (both _ hh))
  | one hh =>
    right
    rcases h with ⟨rfl, rfl, h0, h1⟩ | ⟨hv1, p, q, h0, h1⟩
    · obtain rfl := f0 rfl
      refine .inr (.inl ⟨by omega, c, by rw [hh, if_pos rfl]; exact n0, ?_, fun hq => ?_⟩)
      · rw [hh, if_neg (fun e => secV_ne e.symm), h1, z64_vU]; omega
      · rw [hh, if_neg (fun e => secV_ne e.symm), h1, z64_vU] at hq; omega
    · obtain rfl := f1 hv1
      refine .inr (.inr ⟨by omega, c, by rw [hh, if_pos rfl]; exact n1, ?_⟩)
      rw [hh, if_neg secV_ne, h0.v3]
      omega
def HealU (r : Int) (m : DM) (g : Int) (v : Nat) (b : List Nat) : Prop := (m.heal r g = (0, m) ∧ TwoU r m g v b) ∨ ∃ (s : Nat) (L : List Nat), s < 156 ∧ Sect L ∧ m.heal r g = m.putC (s : Int) L ∧ ∀ m' : DM, (∀ t, m'.hold t = if t = s then L else m.hold t) → TwoU r m' g v b
theorem heal0U {m : DM} {g : Int} {v c : Nat} {b : List Nat} {pw : Int} (hd : CD m pw) (hg : g = 1 ∨ g = 2) (hv : 1 ≤ v) (h0 : CopU r (m.hold (secV g 0)) g 0 v c b) (h1 : mfl (m.hold (secV g 1)) r g 1 3 ≤ v) : HealU r m g v b := by
  have ha := at0U h0 h1
  have hl := hd.ldU hg (ldd0U h0 h1)
  have hx : m.hold (secV g 0) = [] ∨ Sect (m.hold (secV g 0)) := by rw [← hd.cb0 hg]; exact read_sect hd.b.ok _
  obtain ⟨_, _, _, hmay, hlen⟩ := mine_copy hx h0.st
  rw [h0.v3, h0.c4] at hmay
  rw [h0.bd] at hlen
  have hbl : ∀ z ∈ b, z < 256 := by
    rw [← h0.bd]
    rcases hx with e | e
    · rw [e]; intro z hz; unfold mbl obl bodyOf at hz; (repeat' split at hz) <;> simp at hz
    · intro z hz
      unfold mbl obl bodyOf at hz
      (repeat' split at hz) <;> first | (simp at hz; done) | exact e.2 z (List.mem_of_mem_drop (List.mem_of_mem_take hz))
  unfold HealU DM.heal
  rw [if_neg (by rw [hl.e]; simp), hd.cb0 hg, hd.cb1 hg, ha]
  by_cases hs : sameC r g (m.hold (secV g 0)) (m.hold (secV g 1)) = true
  · rw [if_pos (.inr hs)]
    refine .inl ⟨rfl, .inr ⟨hv, c, mfl (m.hold (secV g 1)) r g 1 4, h0, ?_⟩⟩
    unfold sameC at hs
    rw [if_pos ha, Bool.and_eq_true, Bool.and_eq_true] at hs
    exact ⟨of_decide_eq_true hs.1, (of_decide_eq_true hs.2.1).trans h0.v3, rfl, (of_decide_eq_true hs.2.2).trans h0.bd⟩
  · rw [if_neg (fun h => h.elim (fun h => by cases h) hs)]
    have hf : ∀ k, cellF r g (m.hold (secV g 0)) (m.hold (secV g 1)) k = mfl (m.hold (secV g 0)) r g 0 k := fun k => by unfold cellF; rw [if_pos ha]
    have hb2 : cellB r g (m.hold (secV g 0)) (m.hold (secV g 1)) = b := by unfold cellB; rw [if_pos ha, h0.bd]
    rw [hf, hf, hb2, h0.v3, h0.c4, show firstS g (otherP 0) = (secV g 1 : Nat) from secV_first hg (p := 1) (by omega)]
    have hm1 : mayB r g ((1 : Nat) : Int) (v : Int) (c : Int) = true := may_other hg (.inr rfl) hmay
    exact .inr ⟨secV g 1, sealC r g (otherP 0) v c b, secV_lt hg (by omega), sealC_sect hm1 hlen hbl, rfl, fun m' k2 => .inr ⟨hv, c, c, by rw [k2, if_neg secV_ne]; exact h0, by rw [k2, if_pos rfl]; exact cop_sealU hm1 hlen⟩⟩
theorem heal1U {m : DM} {g : Int} {v c : Nat} {b : List Nat} {pw : Int} (hd : CD m pw) (hg : g = 1 ∨ g = 2) (hv : 1 ≤ v) (h1 : CopU r (m.hold (secV g 1)) g 1 v c b) (h0 : mfl (m.hold (secV g 0)) r g 0 3 < v) : HealU r m g v b := by
  have ha := at1U h1 (.inl h0)
  have hl := hd.ldU hg (ldd1U h1 (.inl h0))
  have hx : m.hold (secV g 1) = [] ∨ Sect (m.hold (secV g 1)) := by rw [← hd.cb1 hg]; exact read_sect hd.b.ok _
  obtain ⟨_, _, _, hmay, hlen⟩ := mine_copy hx h1.st
  rw [h1.v3, h1.c4] at hmay
  rw [h1.bd] at hlen
  have hbl : ∀ z ∈ b, z < 256 := by
    rw [← h1.bd]
    rcases hx with e | e
    · rw [e]; intro z hz; unfold mbl obl bodyOf at hz; (repeat' split at hz) <;> simp at hz
    · intro z hz
      unfold mbl obl bodyOf at hz
      (repeat' split at hz) <;> first | (simp at hz; done) | exact e.2 z (List.mem_of_mem_drop (List.mem_of_mem_take hz))
  unfold HealU DM.heal
  rw [if_neg (by rw [hl.e]; simp), hd.cb0 hg, hd.cb1 hg, ha]
  have hs : sameC r g (m.hold (secV g 0)) (m.hold (secV g 1)) = false := by
    unfold sameC
    rw [if_neg (by rw [ha]; omega), decide_eq_false (p := mfl (m.hold (secV g 0)) r g 0 3 = mfl (m.hold (secV g 1)) r g 1 3) (by rw [h1.v3]; omega)]
    simp
  rw [if_neg (fun h => h.elim (fun h => by cases h) (fun h => by rw [hs] at h; cases h))]
  have hf : ∀ k, cellF r g (m.hold (secV g 0)) (m.hold (secV g 1)) k = mfl (m.hold (secV g 1)) r g 1 k := fun k => by unfold cellF; rw [if_neg (by rw [ha]; omega), if_pos ha]
  have hb2 : cellB r g (m.hold (secV g 0)) (m.hold (secV g 1)) = b := by unfold cellB; rw [if_neg (by rw [ha]; omega), if_pos ha, h1.bd]
  rw [hf, hf, hb2, h1.v3, h1.c4, show firstS g (otherP 1) = (secV g 0 : Nat) from secV_first hg (p := 0) (by omega)]
  have hm1 : mayB r g ((0 : Nat) : Int) (v : Int) (c : Int) = true := may_other hg (.inl rfl) hmay
  exact .inr ⟨secV g 0, sealC r g (otherP 1) v c b, secV_lt hg (by omega), sealC_sect hm1 hlen hbl, rfl, fun m' k2 => .inr ⟨hv, c, c, by rw [k2, if_pos rfl]; exact cop_sealU hm1 hlen, by rw [k2, if_neg (fun e => secV_ne e.symm)]; exact h1⟩⟩
theorem SomeU.heal {m : DM} {g : Int} {v : Nat} {b : List Nat} {pw : Int} (hd : CD m pw) (hg : g = 1 ∨ g = 2) (h : SomeU r m g v b) : HealU r m g v b := by
  rcases h with ⟨rfl, rfl, h0, h1⟩ | ⟨hv, c, h0, h1, _⟩ | ⟨hv, c, h1, h0⟩
  · have ha := atmU (r := r) (g := g) (x := z64) (y := z64) (by rw [z64_blank]; omega) (by rw [z64_blank]; omega)
    have hl := hd.ldU (v := 0) (b := []) hg (by rw [h0, h1]; exact ldd_blankU (z64_blank r g 0) (z64_blank r g 1))
    refine .inl ⟨?_, .inl ⟨rfl, rfl, h0, h1⟩⟩
    unfold DM.heal
    rw [if_neg (by rw [hl.e]; simp), hd.cb0 hg, hd.cb1 hg, h0, h1, if_pos (.inl ha)]
  · exact heal0U hd hg hv h0 h1
  · exact heal1U hd hg hv h1 h0
end
section
def DM.ldE (m : DM) (r : Int) : Int := if m.loadE r 1 ≠ 0 then m.loadE r 1 else if m.loadV r 1 = 0 then 0 else uE (m.loadB r 1)
def DM.ldF (m : DM) (r : Int) (k : Nat) : Nat := if m.loadE r 1 ≠ 0 then 0 else if m.loadV r 1 = 0 then 0 else uF (m.loadB r 1) k
structure UO where
  e : Int
  a : Int
  b : Int
  c : Int
  m : DM
def DM.storeU (m : DM) (r a b c : Int) : UO :=
  if (m.store r 1 c (uL a b c)).1 ≠ 0 then ⟨(m.store r 1 c (uL a b c)).1, 0, 0, 0, (m.store r 1 c (uL a b c)).2⟩ else ⟨0, a, b, c, (m.store r 1 c (uL a b c)).2⟩
def After (m : DM) (P : DM → Prop) : Prop := ∀ keep : List Bool, (m.crash keep).1 = 0 ∧ (m.crash keep).2.start.1 = 0 ∧ CD (m.crash keep).2.start.2 (-1) ∧ P (m.crash keep).2.start.2
theorem After.mono {m : DM} {P Q : DM → Prop} (h : After m P) (k : ∀ n, P n → Q n) : After m Q := fun keep => by
  obtain ⟨h1, h2, h3, h4⟩ := h keep
  exact ⟨h1, h2, h3, k _ h4⟩
section
variable {m : DM} {pw : Int} {r : Int} {v : Nat} {b : List Nat}
theorem SomeU.of_eq {m' : DM} {g : Int} (h : SomeU r m g v b) (h0 : m'.hold (secV g 0) = m.hold (secV g 0)) (h1 : m'.hold (secV g 1) = m.hold (secV g 1)) : SomeU r m' g v b := by
  unfold SomeU
  rw [h0, h1]
  exact h
theorem TwoU.storing (h : TwoU r m 1 v b) (hr : 0 ≤ r ∧ r < 7) (hd : CD m pw) (hp : -1 ≤ pw) (hv : v < 1099511627776) {c : Int} (hc : 1 ≤ c ∧ c ≤ 1099511627776) {body : List Nat} (hn : body.length ≤ 43) (hb : ∀ x ∈ body, x < 256) :
    ∃ m', (m.store r 1 c body = (0, m') ∧ ∃ q, -1 ≤ q ∧ (pw = -1 → q = -1) ∧ CD m' q ∧ TwoU r m' 1 (v + 1) body) ∨ (pw ≠ -1 ∧ m.store r 1 c body = (5, m') ∧ After m' fun n => SomeU r n 1 v b ∨ SomeU r n 1 (v + 1) body) := by
  obtain ⟨c, rfl⟩ := Int.eq_ofNat_of_zero_le (show 0 ≤ c by omega)
  have hc : 1 ≤ c ∧ c ≤ 1099511627776 := by omega
  have g1 : (1 : Int) = 1 ∨ (1 : Int) = 2 := .inl rfl
  by_cases hk : pw = -1 ∨ 4 ≤ pw
  · obtain ⟨f, o, hf, ho, _, _, hs⟩ := h.store hd g1 hv hc hn
    have ho1 : o ≤ 1 := by omega
    obtain ⟨m', q, e, h1, h2, h3⟩ := hd.two_ok (a := secV 1 f) (b := secV 1 o) hk (secV_lt g1 hf) (secV_lt g1 ho1) (sealC_sect (may_newU hr g1 hf hv hc) hn hb) (sealC_sect (may_newU hr g1 ho1 hv hc) hn hb)
    have n0 := cop_sealU (may_newU hr g1 (p := 0) (by omega) hv hc) hn
    have n1 := cop_sealU (may_newU hr g1 (p := 1) (by omega) hv hc) hn
    refine ⟨m', .inl ⟨hs.trans e, q, ?_, h2, h1, .inr ⟨by omega, c, c, ?_, ?_⟩⟩⟩
    · have := h1.b.ok.power
      rw [h1.power] at this
      exact this
    · have hff : f = 0 ∨ f = 1 := by omega
      rcases hff with rfl | rfl
      · obtain rfl : o = 1 := by omega
        rw [h3, if_neg secV_ne, if_pos rfl]; exact n0
      · obtain rfl : o = 0 := by omega
        rw [h3, if_pos rfl]; exact n0
    · have hff : f = 0 ∨ f = 1 := by omega
      rcases hff with rfl | rfl
      · obtain rfl : o = 1 := by omega
        rw [h3, if_pos rfl]; exact n1
      · obtain rfl : o = 0 := by omega
        rw [h3, if_neg (fun e => secV_ne e.symm), if_pos rfl]; exact n1
  · obtain ⟨k, rfl⟩ := Int.eq_ofNat_of_zero_le (show 0 ≤ pw by omega)
    refine ⟨(m.store r 1 (c : Int) body).2, .inr ⟨by omega, ?_, fun keep => ?_⟩⟩
    · have := (h.power hr hd g1 hv hc hn hb []).1
      rw [if_pos (by omega)] at this
      exact Prod.ext this rfl
    · obtain ⟨_, h2, h3, h4, h5, _⟩ := h.power hr hd g1 hv hc hn hb keep
      exact ⟨h2, h3, h4, h5⟩
def Sto (v : Nat) (body : List Nat) (A B C : Int) : Prop := (v = 0 ∧ A = 0 ∧ B = 0 ∧ C = 0) ∨ (1 ≤ v ∧ mayU A B C = true ∧ body = uL A B C)
theorem Sto.of {A B C : Int} (h : mayU A B C = true) : Sto (v + 1) (uL A B C) A B C := .inr ⟨by omega, h, rfl⟩
theorem LdU.read {A B C : Int} {body : List Nat} (h : LdU r m 1 v body) (hs : Sto v body A B C) : m.ldE r = 0 ∧ (m.ldF r 0 : Int) = A ∧ (m.ldF r 1 : Int) = B ∧ (m.ldF r 2 : Int) = C := by
  unfold DM.ldE DM.ldF
  rw [h.e, h.v, h.b]
  simp only [ne_eq, not_true_eq_false, if_false]
  rcases hs with ⟨rfl, rfl, rfl, rfl⟩ | ⟨hv, hm, rfl⟩
  · simp
  · have h0 : ¬ v = 0 := by omega
    obtain ⟨e, f0, f1, f2⟩ := uBack hm
    simp only [if_neg h0]
    exact ⟨uE_yes e, f0, f1, f2⟩
structure Told (r : Int) (pw : Int) (o : UO) (a b c : Int) (v : Nat) (body : List Nat) : Prop where
  two : (o.e = 0 ∧ o.a = a ∧ o.b = b ∧ o.c = c ∧ ∃ q, -1 ≤ q ∧ (pw = -1 → q = -1) ∧ CD o.m q ∧ TwoU r o.m 1 (v + 1) (uL a b c)) ∨
    (pw ≠ -1 ∧ o.e = 5 ∧ o.a = 0 ∧ o.b = 0 ∧ o.c = 0 ∧ After o.m fun n => SomeU r n 1 v body ∨ SomeU r n 1 (v + 1) (uL a b c))
theorem TwoU.told {x y c : Int} {body : List Nat} (h : TwoU r m 1 v body) (hr : 0 ≤ r ∧ r < 7) (hd : CD m pw) (hp : -1 ≤ pw) (hv : v < 1099511627776) (hm : mayU x y c = true) : Told r pw (m.storeU r x y c) x y c v body := by
  have hc : 1 ≤ c ∧ c ≤ 1099511627776 := (mayU_iff.1 hm).2
  obtain ⟨m', h1 | ⟨h1, h2, h3⟩⟩ := h.storing hr hd hp hv hc (body := uL x y c) (by rw [uL_len hm]; omega) (uL_lt x y c)
  · obtain ⟨h1, h2⟩ := h1
    unfold DM.storeU
    rw [h1]
    exact ⟨.inl ⟨rfl, rfl, rfl, rfl, h2⟩⟩
  · unfold DM.storeU
    rw [h2]
    exact ⟨.inr ⟨h1, rfl, rfl, rfl, rfl, h3⟩⟩
end
end
section
structure ShM where
  ix : Nat := 0
  ar : Nat := 0
  ct : Nat := 0
def manL (s : ShM) : List Nat := (digs 6 s.ix ++ digs 1 s.ar) ++ digs 1 s.ct
def manR (b : List Nat) : ShM := ⟨num ((b.drop 0).take 6), num ((b.drop 6).take 1), num ((b.drop 7).take 1)⟩
def manOk (s : ShM) : Bool := decide (1 ≤ s.ix ∧ s.ix ≤ 1099511627752 ∧ s.ar ≤ 1 ∧ 1 ≤ s.ct ∧ s.ct ≤ 8)
def manB (b : List Nat) : Bool := decide (b.length = 8) && manOk (manR b)
def manE (b : List Nat) : Int := if manB b = true then 0 else 130
def manS (b : List Nat) : ShM := if manB b = true then manR b else {}
theorem manOk_iff {s : ShM} : manOk s = true ↔ 1 ≤ s.ix ∧ s.ix ≤ 1099511627752 ∧ s.ar ≤ 1 ∧ 1 ≤ s.ct ∧ s.ct ≤ 8 := decide_eq_true_iff
theorem manL_len (s : ShM) : (manL s).length = 8 := by unfold manL; simp [digs_length]
theorem manL_lt (s : ShM) : ∀ x ∈ manL s, x < 256 := by
  intro x hx
  unfold manL at hx
  rcases List.mem_append.1 hx with h | h
  · rcases List.mem_append.1 h with h | h
    · exact digs_lt _ _ x h
    · exact digs_lt _ _ x h
  · exact digs_lt _ _ x h
theorem man_back {s : ShM} (h : manOk s = true) : manB (manL s) = true ∧ manR (manL s) = s := by
  obtain ⟨h1, h2, h3, h4, h5⟩ := manOk_iff.1 h
  have e0 : num (((manL s).drop 0).take 6) = s.ix := by
    unfold manL
    rw [List.drop_zero, List.append_assoc, List.take_append_of_le_length (by rw [digs_length]; exact Nat.le_refl _), List.take_of_length_le (by rw [digs_length]; exact Nat.le_refl _), num_digs 6 _ (by simp; omega)]
  have e1 : num (((manL s).drop 6).take 1) = s.ar := by
    unfold manL
    rw [List.append_assoc, List.drop_left' (digs_length 6 _), List.take_append_of_le_length (by rw [digs_length]; exact Nat.le_refl _), List.take_of_length_le (by rw [digs_length]; exact Nat.le_refl _), num_digs 1 _ (by simp; omega)]
  have e2 : num (((manL s).drop 7).take 1) = s.ct := by
    unfold manL
    rw [List.drop_left' (by simp [digs_length]), List.take_of_length_le (by rw [digs_length]; exact Nat.le_refl _), num_digs 1 _ (by simp; omega)]
  have e : manR (manL s) = s := by
    unfold manR
    rw [e0, e1, e2]
  refine ⟨?_, e⟩
  unfold manB
  rw [e, h, manL_len]
  rfl
theorem manE_back {s : ShM} (h : manOk s = true) : manE (manL s) = 0 ∧ manS (manL s) = s := by
  obtain ⟨h1, h2⟩ := man_back h
  unfold manE manS
  rw [if_pos h1, if_pos h1]
  exact ⟨rfl, h2⟩
def sC (p : Nat) : Nat := 124 + 2 * p
theorem first5 {p : Nat} (h : p < 16) : firstS 5 (p : Int) = (sC p : Nat) := by
  unfold firstS sC
  rw [if_pos (by simp [plc]; omega)]
  simp [beg, wid]
  omega
theorem sC_lt {p : Nat} (h : p < 16) : sC p + 1 < 156 := by unfold sC; omega
def DM.kb (m : DM) (p : Int) : List Nat := pair2 (m.read (firstS 5 p)).1 (m.read (firstS 5 p + 1)).1
def okC (r : Int) (s : ShM) (k : Nat) (x : List Nat) : Bool := decide (stM x r 5 ((8 * s.ar + k : Nat) : Int) = 1 ∧ mfl x r 5 ((8 * s.ar + k : Nat) : Int) 3 = s.ix ∧ (paZ (mbl x r 5 ((8 * s.ar + k : Nat) : Int))).2.2 = 0 ∧ (paZ (mbl x r 5 ((8 * s.ar + k : Nat) : Int))).1 = s.ct ∧ fitsC k s.ct (paZ (mbl x r 5 ((8 * s.ar + k : Nat) : Int))).2.1.length = true)
def bytC (r : Int) (s : ShM) (k : Nat) (x : List Nat) : List Nat := if okC r s k x = true then (paZ (mbl x r 5 ((8 * s.ar + k : Nat) : Int))).2.1 else []
def DM.chB (m : DM) (r : Int) (s : ShM) (k : Nat) : Bool := okC r s k (m.kb ((8 * s.ar + k : Nat) : Int))
def DM.chL (m : DM) (r : Int) (s : ShM) (k : Nat) : List Nat := bytC r s k (m.kb ((8 * s.ar + k : Nat) : Int))
def DM.hurtK (m : DM) (r : Int) (s : ShM) (n : Nat) : List Nat := (List.range n).filter fun k => !m.chB r s k
theorem hurtK_succ (m : DM) (r : Int) (s : ShM) (n : Nat) : m.hurtK r s (n + 1) = if m.chB r s n = true then m.hurtK r s n else m.hurtK r s n ++ [n] := by
  unfold DM.hurtK
  rw [List.range_succ, List.filter_append]
  cases h : m.chB r s n <;> simp [h]
theorem hurtK_nil {m : DM} {r : Int} {s : ShM} {n : Nat} : m.hurtK r s n = [] ↔ ∀ k, k < n → m.chB r s k = true := by
  unfold DM.hurtK
  rw [List.filter_eq_nil_iff]
  constructor
  · intro h k hk
    have := h k (List.mem_range.2 hk)
    simpa using this
  · intro h k hk
    simp [h k (List.mem_range.1 hk)]
def DM.catK (m : DM) (r : Int) (s : ShM) (n : Nat) : List Nat := ((List.range n).map (m.chL r s)).flatten
theorem catK_succ (m : DM) (r : Int) (s : ShM) (n : Nat) : m.catK r s (n + 1) = m.catK r s n ++ m.chL r s n := by
  unfold DM.catK
  rw [List.range_succ]
  simp
def DM.allE (m : DM) (r : Int) (s : ShM) : Int := if m.up = false then 5 else if m.hurtK r s s.ct = [] then 0 else 130
def DM.allO (m : DM) (r : Int) (s : ShM) : List Nat := if m.allE r s = 0 then m.catK r s s.ct else []
def frmY (r inc : Int) (s : ShM) (k : Nat) (c : List Nat) : List Nat := sealL r 5 ((8 * s.ar + k : Nat) : Int) (s.ix : Int) inc (prZL (s.ct : Int) c) 2
def wrsY (r inc : Int) (s : ShM) : Int × DM → Nat → List (List Nat) → Int × DM
  | x, _, [] => x
  | x, k, c :: l => wrsY r inc s (wrsE x (firstS 5 ((8 * s.ar + k : Nat) : Int)) (frmY r inc s k c) 2) (k + 1) l
theorem wrsY_snoc (r inc : Int) (s : ShM) (c : List Nat) : ∀ (l : List (List Nat)) (x : Int × DM) (k : Nat), wrsY r inc s x k (l ++ [c]) = wrsE (wrsY r inc s x k l) (firstS 5 ((8 * s.ar + (k + l.length) : Nat) : Int)) (frmY r inc s (k + l.length) c) 2
  | [], x, k => rfl
  | d :: l, x, k => by
    show wrsY r inc s _ (k + 1) (l ++ [c]) = _
    rw [wrsY_snoc r inc s c l]
    rw [List.length_cons, show k + 1 + l.length = k + (l.length + 1) from by omega]
    rfl
theorem wrsY_err (r inc : Int) (s : ShM) {E : Int} {m : DM} (h : E ≠ 0) : ∀ (l : List (List Nat)) (k : Nat), wrsY r inc s (E, m) k l = (E, m)
  | [], _ => rfl
  | c :: l, k => by
    show wrsY r inc s _ (k + 1) l = _
    rw [wrs_err h]
    exact wrsY_err r inc s h l (k + 1)
def DM.wrY (m : DM) (r inc : Int) (s : ShM) (k : Nat) (l : List (List Nat)) : Int × DM := unE (wrsY r inc s (0, m) k l) DM.flush
def nextY (s : ShM) (i n : Nat) : ShM := ⟨i, if s.ix = 0 then 0 else 1 - s.ar, n⟩
def DM.putY (m : DM) (r inc : Int) (s : ShM) (l : List (List Nat)) : Int × DM := if (m.wrY r inc s 0 l).1 ≠ 0 then m.wrY r inc s 0 l else (m.wrY r inc s 0 l).2.store r 2 inc (manL s)
end
section
open Go Go.RowKit
structure LogAt (w : World) (g d : Nat) (r inc : Int) (s : Nat) : Prop where
  row : w.heap[g]? = some (.cells #[.pointer (some ⟨g, 0, none⟩), .pointer (some ⟨d, 0, none⟩), .int .i64 r, .int .i64 inc, .int .i64 (s : Int)] 123 (0, 0))
theorem LogAt.lt {w : World} {g d s : Nat} {r inc : Int} (h : LogAt w g d r inc s) : g < w.heap.size := (Array.getElem?_eq_some_iff.1 h.row).1
theorem LogAt.cells {w : World} {g d s : Nat} {r inc : Int} (h : LogAt w g d r inc s) : w.cell? ⟨g, 0, none⟩ = some (.pointer (some ⟨g, 0, none⟩)) ∧ w.cell? ⟨g, 1, none⟩ = some (.pointer (some ⟨d, 0, none⟩)) ∧ w.cell? ⟨g, 2, none⟩ = some (.int .i64 r) ∧ w.cell? ⟨g, 3, none⟩ = some (.int .i64 inc) ∧ w.cell? ⟨g, 4, none⟩ = some (.int .i64 (s : Int)) :=
  ⟨cell_of_row w g 0 _ _ _ h.row, cell_of_row w g 1 _ _ _ h.row, cell_of_row w g 2 _ _ _ h.row, cell_of_row w g 3 _ _ _ h.row, cell_of_row w g 4 _ _ _ h.row⟩
theorem LogAt.ext {w w' : World} {g d s : Nat} {r inc : Int} (h : LogAt w g d r inc s) (hx : Ext w w') : LogAt w' g d r inc s := ⟨(hx.block _ h.lt).trans h.row⟩
theorem LogAt.mod {w w' : World} {F : Nat → Prop} {g d s : Nat} {r inc : Int} (h : LogAt w g d r inc s) (hm : Mod F w w') (hF : ¬ F g) : LogAt w' g d r inc s := ⟨(hm.block g h.lt hF).trans h.row⟩
theorem wrap_i64 {x : Int} (h1 : -9223372036854775808 ≤ x) (h2 : x ≤ 9223372036854775807) : IntKind.i64.wrap x = x := IntWalk.i64_in _ (by omega)
def inI (a b c : Int) : Bool := decide (a ≤ b) && decide (b ≤ c)
end
end Go.Proofs.YtgcinagkbdcgiaaGreatDoor
