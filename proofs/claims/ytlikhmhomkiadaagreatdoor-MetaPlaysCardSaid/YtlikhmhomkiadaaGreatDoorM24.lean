/-
  Plain facts on copies of a cell: which is loaded, by what both places hold; what Store and Heal leave.
  The contract of hurtSectors, as an iterator: those that are hurt come in order.
  The contracts of slices.Collect over the iterator of hurt sectors, and of Hurt.
  The contract of Place.
  The document's cell over the document's disk: what a place holds; which copy is loaded.
  The document's Which and Load over the document's disk.
-/
import Derived.Test.YtlikhmhomkiadaaGreatDoorM05
import Derived.Test.YtlikhmhomkiadaaGreatDoorM15
import Derived.Test.YtlikhmhomkiadaaGreatDoorM17
import Derived.Test.YtlikhmhomkiadaaGreatDoorM22
import Derived.Test.YtlikhmhomkiadaaGreatDoorM23
import Derived.RangeFuncNested
import Derived.RangeFuncBound
import Derived.RangeFuncCalls
import Derived.RangeFuncLeaves
import Derived.Shelf.Abstract
import Derived.Shelf.RegionOpen
import Derived.WalkKit
import Derived.OwnWalkIn
import Derived.TacticsInMore
import Derived.LoopNIn
import Derived.LoopIn
import Derived.RangeFuncBox
import Derived.Maps.AppendAt
import Derived.Deep.RegionHeld3
namespace Go.Proofs.YtlikhmhomkiadaaGreatDoor
set_option maxRecDepth 100000

/-- A good copy at a place of replica 0. -/
structure Cop (x : List Nat) (g p : Int) (v c : Nat) (b : List Nat) : Prop where
  st : stM x 0 g p = 1
  v3 : mfl x 0 g p 3 = v
  c4 : mfl x 0 g p 4 = c
  bd : mbl x 0 g p = b
theorem sealC_sect {r g p : Int} {i c : Nat} {b : List Nat} (h : mayB r g p (i : Int) (c : Int) = true) (hn : b.length ≤ 43) (hb : ∀ x ∈ b, x < 256) : Sect (sealC r g p i c b) := by
  have hE := seal_one (n := b.length) h hn
  refine ⟨?_, sealL_lt hb⟩
  have := (sealL_len hE).1
  unfold sealC
  rw [this]
  rfl
theorem cop_seal {g p : Int} {i c : Nat} {b : List Nat} (h : mayB 0 g p (i : Int) (c : Int) = true) (hn : b.length ≤ 43) : Cop (sealC 0 g p i c b) g p i c b := by
  obtain ⟨h1, _, h3, _, _, _, h4, h5⟩ := seal_mine (seal_one (n := b.length) h hn)
  exact ⟨h1, Int.ofNat.inj h4, Int.ofNat.inj h5, h3⟩
theorem no_copy {x : List Nat} {r g p : Int} (h : stM x r g p ≠ 1) (k : Nat) : mfl x r g p k = 0 := by
  unfold mfl
  split
  · rename_i hm
    exact absurd (by unfold stM; rw [if_pos (by unfold mineB at hm; rw [Bool.and_eq_true] at hm; exact hm.1), if_pos hm]) h
  · rfl
theorem z64_blank (r g p : Int) : stM z64 r g p = 0 := by
  have hz : zeroB z64 = true := by decide
  rw [(mine_bad (zero_bad hz)).1]
  exact stN_blank (by decide) hz
theorem nil_bad (r g p : Int) : stM [] r g p = 2 := by
  have hz : szB [] = false := by decide
  rw [(mine_bad (size_bad hz)).1]
  exact stN_size hz
/-- What is loaded of two places. -/
structure Ldd (g : Int) (x y : List Nat) (E : Int) (v : Nat) (b : List Nat) : Prop where
  e : cellE 0 g x y = E
  v : cellF 0 g x y 3 = v
  b : cellB 0 g x y = b
section
variable {g : Int} {x y : List Nat} {v c u d : Nat} {b e : List Nat}
theorem at0 (h : Cop x g 0 v c b) (hy : mfl y 0 g 1 3 ≤ v) : atC 0 g x y = 0 := by
  unfold atC pickP lead0
  rw [h.st, h.v3, decide_eq_true hy]
  rfl
theorem atm (hx : stM x 0 g 0 ≠ 1) (hy : stM y 0 g 1 ≠ 1) : atC 0 g x y = -1 := by
  unfold atC pickP lead0 lead1
  rw [decide_eq_false hx, decide_eq_false hy]
  rfl
theorem ldd0 (h : Cop x g 0 v c b) (hy : mfl y 0 g 1 3 ≤ v) : Ldd g x y 0 v b := by
  have ha := at0 h hy
  exact ⟨by unfold cellE; rw [ha, if_neg (by omega)], by unfold cellF; rw [if_pos ha, h.v3], by unfold cellB; rw [if_pos ha, h.bd]⟩
theorem ldd_blank (hx : stM x 0 g 0 = 0) (hy : stM y 0 g 1 = 0) : Ldd g x y 0 0 [] := by
  have ha := atm (g := g) (x := x) (y := y) (by omega) (by omega)
  refine ⟨?_, by unfold cellF; rw [ha]; rfl, by unfold cellB; rw [ha]; rfl⟩
  unfold cellE blankC pickP
  rw [hx, if_neg (by simp)]
end
/-- The sector of a place of a cell. -/
def secV (g : Int) (p : Nat) : Nat := (2 * (g - 1)).toNat + p
theorem secV_first {g : Int} (hg : g = 1 ∨ g = 2) {p : Nat} (hp : p ≤ 1) : firstS g (p : Int) = (secV g p : Nat) := by
  have : p = 0 ∨ p = 1 := by omega
  rcases hg with rfl | rfl <;> rcases this with rfl | rfl <;> decide
theorem secV_lt {g : Int} (hg : g = 1 ∨ g = 2) {p : Nat} (hp : p ≤ 1) : secV g p < 156 := by
  unfold secV
  rcases hg with rfl | rfl <;> omega
theorem secV_ne {g : Int} : secV g 0 ≠ secV g 1 := by unfold secV; omega
/-- What is loaded of a disk. -/
structure Ld (m : DM) (g : Int) (v : Nat) (b : List Nat) : Prop where
  e : m.loadE 0 g = 0
  v : m.loadV 0 g = v
  b : m.loadB 0 g = b
section
variable {m : DM} {pw : Int} {g : Int} {v : Nat} {b : List Nat}
theorem CD.cb (h : CD m pw) (hg : g = 1 ∨ g = 2) {p : Nat} (hp : p ≤ 1) : m.cb g (p : Int) = m.hold (secV g p) := by
  unfold DM.cb
  rw [secV_first hg hp]
  exact h.read (secV_lt hg hp)
theorem CD.cb0 (h : CD m pw) (hg : g = 1 ∨ g = 2) : m.cb g 0 = m.hold (secV g 0) := h.cb hg (p := 0) (by omega)
theorem CD.cb1 (h : CD m pw) (hg : g = 1 ∨ g = 2) : m.cb g 1 = m.hold (secV g 1) := h.cb hg (p := 1) (by omega)
theorem CD.loadE (h : CD m pw) (hg : g = 1 ∨ g = 2) : m.loadE 0 g = cellE 0 g (m.hold (secV g 0)) (m.hold (secV g 1)) := by
  unfold DM.loadE
  rw [if_neg (by rw [h.up]; simp), h.cb0 hg, h.cb1 hg]
theorem CD.ld (h : CD m pw) (hg : g = 1 ∨ g = 2) (k : Ldd g (m.hold (secV g 0)) (m.hold (secV g 1)) 0 v b) : Ld m g v b := by
  have he : m.loadE 0 g = 0 := by rw [h.loadE hg]; exact k.e
  refine ⟨he, ?_, ?_⟩
  · unfold DM.loadV
    rw [if_pos he, h.cb0 hg, h.cb1 hg]
    exact k.v
  · unfold DM.loadB
    rw [if_pos he, h.cb0 hg, h.cb1 hg]
    exact k.b
end
/-- Both copies of a cell are of one version and body; or nothing was stored. -/
def Two (m : DM) (g : Int) (v : Nat) (b : List Nat) : Prop :=
  (v = 0 ∧ b = [] ∧ m.hold (secV g 0) = z64 ∧ m.hold (secV g 1) = z64) ∨ (1 ≤ v ∧ ∃ c d, Cop (m.hold (secV g 0)) g 0 v c b ∧ Cop (m.hold (secV g 1)) g 1 v d b)
theorem Two.of_eq {m m' : DM} {g : Int} {v : Nat} {b : List Nat} (h : Two m g v b) (h0 : m'.hold (secV g 0) = m.hold (secV g 0)) (h1 : m'.hold (secV g 1) = m.hold (secV g 1)) : Two m' g v b := by
  unfold Two
  rw [h0, h1]
  exact h
theorem Two.ldd {m : DM} {g : Int} {v : Nat} {b : List Nat} (h : Two m g v b) : Ldd g (m.hold (secV g 0)) (m.hold (secV g 1)) 0 v b := by
  rcases h with ⟨rfl, rfl, h0, h1⟩ | ⟨hv, c, d, h0, h1⟩
  · rw [h0, h1]
    exact ldd_blank (z64_blank 0 g 0) (z64_blank 0 g 1)
  · exact ldd0 h0 (by rw [h1.v3]; omega)
/-- What Store does to a cell both copies of which are the same. -/
theorem Two.store {m : DM} {pw : Int} {g : Int} {v : Nat} {b : List Nat} (hd : CD m pw) (hg : g = 1 ∨ g = 2) (h : Two m g v b) (hv : v < 1099511627776) {c : Nat} (hc : 1 ≤ c ∧ c ≤ 1099511627776) {body : List Nat} (hn : body.length ≤ 43) :
    ∃ f o : Nat, f ≤ 1 ∧ o = 1 - f ∧ (v = 0 → f = 0) ∧ (1 ≤ v → f = 1) ∧ m.store 0 g (c : Int) body = m.two (secV g f) (secV g o) (sealC 0 g f (v + 1) c body) (sealC 0 g o (v + 1) c body) := by
  have hl := hd.ld hg h.ldd
  have hE : m.storeE 0 g (c : Int) body.length = 0 := by
    unfold DM.storeE
    rw [if_neg (by omega), if_neg (by omega), if_neg (by rw [hl.e]; simp), if_neg (by rw [hl.v]; omega)]
  have hs : m.store 0 g (c : Int) body = m.puts2 0 g (firstP 0 g (m.cb g 0) (m.cb g 1)) (v + 1) c body := by
    unfold DM.store
    rw [if_neg (by rw [hE]; simp), hl.v, Int.toNat_natCast]
  rw [hs, hd.cb0 hg, hd.cb1 hg]
  rcases h with ⟨rfl, rfl, h0, h1⟩ | ⟨hv1, c0, d0, h0, h1⟩
  · refine ⟨0, 1, by omega, rfl, fun _ => rfl, fun h => absurd h (by omega), ?_⟩
    have ha := atm (g := g) (x := z64) (y := z64) (by rw [z64_blank]; omega) (by rw [z64_blank]; omega)
    have hf : firstP 0 g (m.hold (secV g 0)) (m.hold (secV g 1)) = 0 := by unfold firstP; rw [h0, h1, if_neg (by rw [ha]; omega)]
    rw [hf]
    unfold DM.puts2 DM.two
    rw [show firstS g 0 = (secV g 0 : Nat) from secV_first hg (p := 0) (by omega), show firstS g (otherP 0) = (secV g 1 : Nat) from secV_first hg (p := 1) (by omega)]
    rfl
  · refine ⟨1, 0, by omega, rfl, fun h => absurd h (by omega), fun _ => rfl, ?_⟩
    have ha := at0 h0 (y := m.hold (secV g 1)) (by rw [h1.v3]; omega)
    have hf : firstP 0 g (m.hold (secV g 0)) (m.hold (secV g 1)) = 1 := by unfold firstP; rw [if_pos ha]
    rw [hf]
    unfold DM.puts2 DM.two
    rw [show firstS g 1 = (secV g 1 : Nat) from secV_first hg (p := 1) (by omega), show firstS g (otherP 1) = (secV g 0 : Nat) from secV_first hg (p := 0) (by omega)]
    rfl
theorem may_new {g : Int} (hg : g = 1 ∨ g = 2) {p : Nat} (hp : p ≤ 1) {v c : Nat} (hv : v < 1099511627776) (hc : 1 ≤ c ∧ c ≤ 1099511627776) : mayB 0 g (p : Int) ((v + 1 : Nat) : Int) (c : Int) = true := may_store (by omega) hg (by omega) hv (by omega)
/-- A Store that has power. -/
theorem Two.stored {m : DM} {g : Int} {v : Nat} {b : List Nat} (hd : CD m (-1)) (hg : g = 1 ∨ g = 2) (h : Two m g v b) (hv : v < 1099511627776) {c : Nat} (hc : 1 ≤ c ∧ c ≤ 1099511627776) {body : List Nat} (hn : body.length ≤ 43) (hb : ∀ x ∈ body, x < 256) :
    ∃ m', m.store 0 g (c : Int) body = (0, m') ∧ CD m' (-1) ∧ Two m' g (v + 1) body ∧ (∀ t, t ≠ secV g 0 → t ≠ secV g 1 → m'.hold t = m.hold t) := by
  obtain ⟨f, o, hf, ho, _, _, hs⟩ := h.store hd hg hv hc hn
  have ho1 : o ≤ 1 := by omega
  obtain ⟨m', q, e, h1, h2, h3⟩ := hd.two_ok (a := secV g f) (b := secV g o) (.inl rfl) (secV_lt hg hf) (secV_lt hg ho1) (sealC_sect (may_new hg hf hv hc) hn hb) (sealC_sect (may_new hg ho1 hv hc) hn hb)
  obtain rfl := h2 rfl
  refine ⟨m', by rw [hs, e], h1, .inr ⟨by omega, c, c, ?_, ?_⟩, fun t t0 t1 => ?_⟩
  · have hff : f = 0 ∨ f = 1 := by omega
    rcases hff with rfl | rfl
    · obtain rfl : o = 1 := by omega
      rw [h3, if_neg secV_ne, if_pos rfl]
      exact cop_seal (may_new hg (p := 0) (by omega) hv hc) hn
    · obtain rfl : o = 0 := by omega
      rw [h3, if_pos rfl]
      exact cop_seal (may_new hg (p := 0) (by omega) hv hc) hn
  · have hff : f = 0 ∨ f = 1 := by omega
    rcases hff with rfl | rfl
    · obtain rfl : o = 1 := by omega
      rw [h3, if_pos rfl]
      exact cop_seal (may_new hg (p := 1) (by omega) hv hc) hn
    · obtain rfl : o = 0 := by omega
      rw [h3, if_neg (fun e => secV_ne e.symm), if_pos rfl]
      exact cop_seal (may_new hg (p := 1) (by omega) hv hc) hn
  · have hff : f = 0 ∨ f = 1 := by omega
    rw [h3]
    rcases hff with rfl | rfl
    · obtain rfl : o = 1 := by omega
      rw [if_neg t1, if_neg t0]
    · obtain rfl : o = 0 := by omega
      rw [if_neg t0, if_neg t1]
end Go.Proofs.YtlikhmhomkiadaaGreatDoor

namespace Go.Proofs.YtlikhmhomkiadaaGreatDoor
set_option maxRecDepth 100000
open Go Go.RowKit Go.Shelf
attribute [local go_sem] Oper.semAt_some

/-- What the iterator stands on: that the sectors' answers abide where the blocks of G alone are written. -/
def HurtsOn (G : Nat → Prop) (W0 : World) (p : Option Addr) (a : Int) (k : Nat) (h : Int → Bool) : Prop :=
  ∀ x : Int, a ≤ x → x < a + k → ∀ W, Mod G W0 W → Calls Tryz.prog 112 #[.pointer p, .int .i64 x] W fun e W' => e = .returned (.bool (h x)) ∧ Ext W W'
theorem HurtsOn.of {G : Nat → Prop} {W0 : World} {d : Nat} {F : Nat → Prop} {m : DM} (hd : PDisk W0 d F m) (hG : ∀ i, F i → ¬ G i) (a : Int) (k : Nat) : HurtsOn G W0 (some ⟨d, 0, none⟩) a k m.hurt :=
  fun x _ _ _ hm => isHurt_of (hd.mod hm hG) x
theorem HurtsOn.none (G : Nat → Prop) (W0 : World) (p : Option Addr) (a : Int) (h : Int → Bool) : HurtsOn G W0 p a 0 h := fun x h1 h2 => by omega

end Go.Proofs.YtlikhmhomkiadaaGreatDoor

namespace Go.Proofs.YtlikhmhomkiadaaGreatDoor
set_option maxRecDepth 100000
open Go Go.RowKit Go.Shelf
attribute [local go_sem] Oper.semAt_some

end Go.Proofs.YtlikhmhomkiadaaGreatDoor

namespace Go.Proofs.YtlikhmhomkiadaaGreatDoor
set_option maxRecDepth 100000
open Go Go.RowKit Go.Shelf
attribute [local go_sem] Oper.semAt_some

theorem firstS_le (g p : Int) : firstS g p ≤ 156 := by
  have h1 := beg_le g
  have h2 := wid_le g
  by_cases hh : 0 ≤ p ∧ p < plc g
  · rw [firstS_yes hh]
    have hr := plc_some (r := g) (by omega)
    rcases region_cases hr with rfl | rfl | rfl | rfl | rfl <;> simp [beg, plc, wid] at hh ⊢ <;> omega
  · rw [firstS_no hh]; omega

end Go.Proofs.YtlikhmhomkiadaaGreatDoor

namespace Go.Proofs.YtlikhmhomkiadaaGreatDoor
open Go Go.RowKit

theorem read_fail {m : DM} {s : Int} (h : (m.read s).2 ≠ 0) : (m.read s).1 = [] := by
  unfold DM.read at h ⊢
  by_cases h1 : m.up = false
  · rw [if_pos h1]
  · rw [if_neg h1] at h ⊢
    by_cases h2 : m.has s = false
    · rw [if_pos h2]
    · rw [if_neg h2] at h ⊢
      cases hl : lastW m.waits s.toNat with
      | some b => rw [hl] at h; exact absurd rfl h
      | none =>
        rw [hl] at h
        dsimp only at h ⊢
        by_cases h3 : m.lost.getD s.toNat false = true
        · rw [if_pos h3]
        · rw [if_neg h3] at h; exact absurd rfl h
theorem nil_mfl (r g p : Int) (k : Nat) : mfl [] r g p k = 0 := no_copy (by rw [nil_bad]; omega) k
theorem nil_mbl (r g p : Int) : mbl [] r g p = [] := by
  have h : mineB [] r g p = false := mineB_bad (size_bad (by decide))
  unfold mbl
  rw [if_neg (by rw [h]; simp)]
/-- Where a place begins is a number of the machine. -/
theorem first_le (g p : Int) : firstS g p ≤ 9223372036854775807 := by
  have := firstS_le g p
  omega

set_option maxRecDepth 100000 in
set_option maxHeartbeats 800000 in
theorem rcmine_of {w : World} {d : Nat} {p : Nat → Nat} {m : DM} (h : RD w d p m) (r g pl : Int) (hfew : m.waits.length ≤ 1000000) :
    Calls Tryz.prog 71 #[.pointer (some ⟨d, 0, none⟩), .int .i64 r, .int .i64 g, .int .i64 pl] w fun e w' => ∃ A N c, e = .returned (.tuple #[.int .u8 (stM (m.cb g pl) r g pl : Nat), .agg #[.int .i64 (mfl (m.cb g pl) r g pl 0 : Nat), .int .i64 (mfl (m.cb g pl) r g pl 1 : Nat), .int .i64 (mfl (m.cb g pl) r g pl 2 : Nat), .int .i64 (mfl (m.cb g pl) r g pl 3 : Nat), .int .i64 (mfl (m.cb g pl) r g pl 4 : Nat)], .slice A N c]) ∧ By w' A N c (mbl (m.cb g pl) r g pl) ∧ Ext w w' := by
  have hrd := fun V (hx : Ext w V) => rread_out (h.ext hx) (firstS g pl) (first_le g pl) hfew
  have HRD := Lib.hid hrd
  unfold DM.cb
  have HER : Hid ((m.read (firstS g pl)).2 ≠ 0 → (m.read (firstS g pl)).1 = []) := Lib.hid read_fail
  obtain ⟨S, hS⟩ : ∃ S, firstS g pl = S := ⟨_, rfl⟩
  have HS := Lib.hid hS
  rw [hS] at HRD HER ⊢
  obtain ⟨x, hx⟩ : ∃ x, (m.read S).1 = x := ⟨_, rfl⟩
  obtain ⟨E, hE⟩ : ∃ E, (m.read S).2 = E := ⟨_, rfl⟩
  rw [hx, hE] at HRD HER
  rw [hx]
  clear h hrd hS hx hE hfew
  have HX := Lib.hid ((Ext.refl w).alloc (.cells #[.int .i64 0, .int .i64 0, .int .i64 0, .int .i64 0, .int .i64 0] 33))
  have HT := Lib.hid (heap_alloc_new w (.cells #[.int .i64 0, .int .i64 0, .int .i64 0, .int .i64 0, .int .i64 0] 33))
  by_cases h0 : E = 0
  · subst h0
    go_enter Tryz.func71, Tryz.ntmps71
    go_wp2_with fail
    refine (rfirst_any g pl _).mono ?_
    rw [HS.out]
    rintro e w1 ⟨rfl, rfl⟩
    go_wp2_with fail
    refine (HRD.out _ HX.out).mono ?_
    rintro e w2 ⟨A, n, c, rfl, hb, hx⟩
    have HB := Lib.hid hb
    have HT := Lib.hid ((hx.block _ (Array.getElem?_eq_some_iff.1 HT.out).1).trans HT.out)
    have HX := Lib.hid (HX.out.trans hx)
    clear hb hx
    go_wp2_with fail
    refine (rmine_any A n c x r g pl _ HB.out).mono ?_
    rintro e w3 ⟨A2, N, c2, rfl, hb, hf, hx⟩
    have HB2 := Lib.hid hb
    have HF2 : Hid (∀ g o, A2 = some ⟨g, o, none⟩ → 0 < N → w.heap.size ≠ g) := Lib.hid fun g o hA hN => by have h1 := hf g o hA hN; have h2 := (Array.getElem?_eq_some_iff.1 HT.out).1; omega
    have HT := Lib.hid ((hx.block _ (Array.getElem?_eq_some_iff.1 HT.out).1).trans HT.out)
    have HX := Lib.hid (HX.out.trans hx)
    clear hb hf hx
    obtain ⟨⟨d0, d1, d2, d3, d4⟩, f0, f1, f2, f3, f4⟩ := five_cells HT.out
    go_wp2_with fail
    refine bodyPost_ret (v := .tuple #[.int .u8 (stM x r g pl : Nat), .agg #[.int .i64 (mfl x r g pl 0 : Nat), .int .i64 (mfl x r g pl 1 : Nat), .int .i64 (mfl x r g pl 2 : Nat), .int .i64 (mfl x r g pl 3 : Nat), .int .i64 (mfl x r g pl 4 : Nat)], .slice A2 N c2]) ?_ rfl ?_
    · simp [results, Tryz.results71, go_sem, d0, d1, d2, d3, d4]
    · exact ⟨_, _, _, rfl, HB2.out.five HF2.out _ _ _ _ _, five_ext HX.out (Nat.le_refl _) _ _ _ _ _⟩
  · have hne : (E != 0) = true := by simpa using h0
    have HXE := Lib.hid (HER.out h0)
    clear h0
    go_enter Tryz.func71, Tryz.ntmps71
    go_wp2_with fail
    refine (rfirst_any g pl _).mono ?_
    rw [HS.out]
    rintro e w1 ⟨rfl, rfl⟩
    go_wp2_with fail
    refine (HRD.out _ HX.out).mono ?_
    rintro e w2 ⟨A, n, c, rfl, hb, hx⟩
    have HB := Lib.hid hb
    have HT := Lib.hid ((hx.block _ (Array.getElem?_eq_some_iff.1 HT.out).1).trans HT.out)
    have HX := Lib.hid (HX.out.trans hx)
    clear hb hx
    obtain ⟨⟨d0, d1, d2, d3, d4⟩, f0, f1, f2, f3, f4⟩ := five_cells HT.out
    go_wp2_with fail
    refine bodyPost_ret (v := .tuple #[.int .u8 2, .agg #[.int .i64 0, .int .i64 0, .int .i64 0, .int .i64 0, .int .i64 0], .slice none 0 0]) ?_ rfl ?_
    · simp [results, Tryz.results71, go_sem, d0, d1, d2, d3, d4]
    · exact ⟨_, _, _, by rw [HXE.out, nil_bad, nil_mfl, nil_mfl, nil_mfl, nil_mfl, nil_mfl]; rfl, by rw [HXE.out, nil_mbl]; exact By.nil_ _, five_ext HX.out (Nat.le_refl _) _ _ _ _ _⟩
end Go.Proofs.YtlikhmhomkiadaaGreatDoor

namespace Go.Proofs.YtlikhmhomkiadaaGreatDoor
open Go Go.RowKit

/-- Which copy is loaded, case by case. -/
theorem which_both {r g : Int} {x y : List Nat} (ha : stM x r g 0 = 1) (hb : stM y r g 1 = 1) : (mfl x r g 0 3 < mfl y r g 1 3 → atC r g x y = 1) ∧ (¬ mfl x r g 0 3 < mfl y r g 1 3 → atC r g x y = 0) := by
  unfold atC pickP lead0 lead1
  rw [ha, hb]
  refine ⟨fun h => ?_, fun h => ?_⟩
  · rw [decide_eq_false (p := mfl y r g 1 3 ≤ mfl x r g 0 3) (by omega), decide_eq_true (p := mfl x r g 0 3 ≤ mfl y r g 1 3) (by omega)]
    rfl
  · rw [decide_eq_true (p := mfl y r g 1 3 ≤ mfl x r g 0 3) (by omega)]
    rfl
theorem which_first {r g : Int} {x y : List Nat} (ha : stM x r g 0 = 1) (hb : stM y r g 1 ≠ 1) : atC r g x y = 0 := by
  unfold atC pickP lead0
  rw [ha, no_copy hb]
  simp
theorem which_second {r g : Int} {x y : List Nat} (ha : stM x r g 0 ≠ 1) (hb : stM y r g 1 = 1) : atC r g x y = 1 := by
  unfold atC pickP lead0 lead1
  rw [hb, no_copy ha, decide_eq_false ha]
  simp
theorem which_none {r g : Int} {x y : List Nat} (ha : stM x r g 0 ≠ 1) (hb : stM y r g 1 ≠ 1) : atC r g x y = -1 := by
  unfold atC pickP lead0 lead1
  rw [decide_eq_false ha, decide_eq_false hb]
  rfl
theorem cellE_at {r g : Int} {x y : List Nat} (h : atC r g x y ≠ -1) : cellE r g x y = 0 := by unfold cellE; rw [if_neg (fun k => h k.1)]
theorem cellE_blank {r g : Int} {x y : List Nat} (h : stM x r g 0 = 0 ∨ stM y r g 1 = 0) : cellE r g x y = 0 := by
  unfold cellE blankC pickP
  rcases h with h | h
  · rw [h]; rw [if_neg (by simp)]
  · rw [h]
    by_cases h0 : stM x r g 0 = 0
    · rw [if_neg (by simp [h0])]
    · rw [if_neg (by simp [h0])]
theorem cellE_bad {r g : Int} {x y : List Nat} (ha : stM x r g 0 ≠ 1) (hb : stM y r g 1 ≠ 1) (ha0 : stM x r g 0 ≠ 0) (hb0 : stM y r g 1 ≠ 0) : cellE r g x y = 70 := by
  unfold cellE blankC pickP
  rw [which_none ha hb, decide_eq_false ha0, decide_eq_false hb0]
  rfl

set_option maxRecDepth 100000 in
set_option maxHeartbeats 1600000 in
theorem rwhich_of {w : World} {d : Nat} {p : Nat → Nat} {m : DM} (h : RD w d p m) (r g : Int) (hfew : m.waits.length ≤ 1000000) :
    Calls Tryz.prog 68 #[.pointer (some ⟨d, 0, none⟩), .int .i64 r, .int .i64 g] w fun e w' => e = .returned (.tuple #[.int .i64 (atC r g (m.cb g 0) (m.cb g 1)), .int .i64 (cellE r g (m.cb g 0) (m.cb g 1))]) ∧ Ext w w' := by
  have H := Lib.hid h
  have hm0 := fun V (hx : Ext w V) => rcmine_of (h.ext hx) r g 0 hfew
  have hm1 := fun V (hx : Ext w V) => rcmine_of (h.ext hx) r g 1 hfew
  obtain ⟨x, hx⟩ : ∃ x, m.cb g 0 = x := ⟨_, rfl⟩
  obtain ⟨y, hy⟩ : ∃ y, m.cb g 1 = y := ⟨_, rfl⟩
  rw [hx] at hm0
  rw [hy] at hm1
  rw [hx, hy]
  have HM0 := Lib.hid hm0
  have HM1 := Lib.hid hm1
  clear h hm0 hm1 hx hy hfew
  by_cases ha : stM x r g 0 = 1
  · by_cases hb : stM y r g 1 = 1
    · by_cases hv : mfl x r g 0 3 < mfl y r g 1 3
      · have HR : Hid (atC r g x y = 1 ∧ cellE r g x y = 0) := Lib.hid ⟨(which_both ha hb).1 hv, cellE_at (by rw [(which_both ha hb).1 hv]; omega)⟩
        have ea1 : (((stM x r g 0) : Int) == 1) = true := by rw [ha]; rfl
        have eb1 : (((stM y r g 1) : Int) == 1) = true := by rw [hb]; rfl
        rw [HR.out.1, HR.out.2]
        have HX := Lib.hid (Ext.refl w)
        generalize stM x r g 0 = sa at *
        generalize stM y r g 1 = sb at *
        generalize hva : mfl x r g 0 3 = va at *
        generalize hvb : mfl y r g 1 3 = vb at *
        clear hva hvb ha hb
        go_enter Tryz.func68, Tryz.ntmps68
        go_wp2_with fail
        refine (HM0.out _ HX.out).mono ?_
        rintro e w1 ⟨A0, N0, k0, rfl, _, hx⟩
        have HX := Lib.hid (HX.out.trans hx)
        have HX := Lib.hid (HX.out.alloc (.cells #[.int .i64 (mfl x r g 0 0 : Nat), .int .i64 (mfl x r g 0 1 : Nat), .int .i64 (mfl x r g 0 2 : Nat), .int .i64 (va : Nat), .int .i64 (mfl x r g 0 4 : Nat)] 33))
        have HT0 := Lib.hid (heap_alloc_new w1 (.cells #[.int .i64 (mfl x r g 0 0 : Nat), .int .i64 (mfl x r g 0 1 : Nat), .int .i64 (mfl x r g 0 2 : Nat), .int .i64 (va : Nat), .int .i64 (mfl x r g 0 4 : Nat)] 33))
        clear hx
        go_wp2_with fail
        refine (HM1.out _ HX.out).mono ?_
        rintro e w2 ⟨A1, N1, k1, rfl, _, hx⟩
        have HX := Lib.hid (HX.out.trans hx)
        have HT0 := Lib.hid ((hx.block _ (Array.getElem?_eq_some_iff.1 HT0.out).1).trans HT0.out)
        have HT0 := Lib.hid ((heap_alloc_old w2 (.cells #[.int .i64 (mfl y r g 1 0 : Nat), .int .i64 (mfl y r g 1 1 : Nat), .int .i64 (mfl y r g 1 2 : Nat), .int .i64 (vb : Nat), .int .i64 (mfl y r g 1 4 : Nat)] 33) (Array.getElem?_eq_some_iff.1 HT0.out).1).trans HT0.out)
        have HT1 := Lib.hid (heap_alloc_new w2 (.cells #[.int .i64 (mfl y r g 1 0 : Nat), .int .i64 (mfl y r g 1 1 : Nat), .int .i64 (mfl y r g 1 2 : Nat), .int .i64 (vb : Nat), .int .i64 (mfl y r g 1 4 : Nat)] 33))
        have HX := Lib.hid (HX.out.alloc (.cells #[.int .i64 (mfl y r g 1 0 : Nat), .int .i64 (mfl y r g 1 1 : Nat), .int .i64 (mfl y r g 1 2 : Nat), .int .i64 (vb : Nat), .int .i64 (mfl y r g 1 4 : Nat)] 33))
        clear hx
        obtain ⟨⟨_, _, _, x3, _⟩, _⟩ := five_cells HT0.out
        obtain ⟨⟨_, _, _, y3, _⟩, _⟩ := five_cells HT1.out
        go_wp2_with fail
        refine bodyPost_ret (v := .tuple #[.int .i64 (1), .int .i64 0]) (by simp [results, Tryz.results68, go_sem]) rfl ⟨rfl, HX.out⟩
      · have HR : Hid (atC r g x y = 0 ∧ cellE r g x y = 0) := Lib.hid ⟨(which_both ha hb).2 hv, cellE_at (by rw [(which_both ha hb).2 hv]; omega)⟩
        have ea1 : (((stM x r g 0) : Int) == 1) = true := by rw [ha]; rfl
        have eb1 : (((stM y r g 1) : Int) == 1) = true := by rw [hb]; rfl
        rw [HR.out.1, HR.out.2]
        have HX := Lib.hid (Ext.refl w)
        generalize stM x r g 0 = sa at *
        generalize stM y r g 1 = sb at *
        generalize hva : mfl x r g 0 3 = va at *
        generalize hvb : mfl y r g 1 3 = vb at *
        clear hva hvb ha hb
        go_enter Tryz.func68, Tryz.ntmps68
        go_wp2_with fail
        refine (HM0.out _ HX.out).mono ?_
        rintro e w1 ⟨A0, N0, k0, rfl, _, hx⟩
        have HX := Lib.hid (HX.out.trans hx)
        have HX := Lib.hid (HX.out.alloc (.cells #[.int .i64 (mfl x r g 0 0 : Nat), .int .i64 (mfl x r g 0 1 : Nat), .int .i64 (mfl x r g 0 2 : Nat), .int .i64 (va : Nat), .int .i64 (mfl x r g 0 4 : Nat)] 33))
        have HT0 := Lib.hid (heap_alloc_new w1 (.cells #[.int .i64 (mfl x r g 0 0 : Nat), .int .i64 (mfl x r g 0 1 : Nat), .int .i64 (mfl x r g 0 2 : Nat), .int .i64 (va : Nat), .int .i64 (mfl x r g 0 4 : Nat)] 33))
        clear hx
        go_wp2_with fail
        refine (HM1.out _ HX.out).mono ?_
        rintro e w2 ⟨A1, N1, k1, rfl, _, hx⟩
        have HX := Lib.hid (HX.out.trans hx)
        have HT0 := Lib.hid ((hx.block _ (Array.getElem?_eq_some_iff.1 HT0.out).1).trans HT0.out)
        have HT0 := Lib.hid ((heap_alloc_old w2 (.cells #[.int .i64 (mfl y r g 1 0 : Nat), .int .i64 (mfl y r g 1 1 : Nat), .int .i64 (mfl y r g 1 2 : Nat), .int .i64 (vb : Nat), .int .i64 (mfl y r g 1 4 : Nat)] 33) (Array.getElem?_eq_some_iff.1 HT0.out).1).trans HT0.out)
        have HT1 := Lib.hid (heap_alloc_new w2 (.cells #[.int .i64 (mfl y r g 1 0 : Nat), .int .i64 (mfl y r g 1 1 : Nat), .int .i64 (mfl y r g 1 2 : Nat), .int .i64 (vb : Nat), .int .i64 (mfl y r g 1 4 : Nat)] 33))
        have HX := Lib.hid (HX.out.alloc (.cells #[.int .i64 (mfl y r g 1 0 : Nat), .int .i64 (mfl y r g 1 1 : Nat), .int .i64 (mfl y r g 1 2 : Nat), .int .i64 (vb : Nat), .int .i64 (mfl y r g 1 4 : Nat)] 33))
        clear hx
        obtain ⟨⟨_, _, _, x3, _⟩, _⟩ := five_cells HT0.out
        obtain ⟨⟨_, _, _, y3, _⟩, _⟩ := five_cells HT1.out
        go_wp2_with fail
        refine bodyPost_ret (v := .tuple #[.int .i64 (0), .int .i64 0]) (by simp [results, Tryz.results68, go_sem]) rfl ⟨rfl, HX.out⟩
    · have HR : Hid (atC r g x y = 0 ∧ cellE r g x y = 0) := Lib.hid ⟨which_first ha hb, cellE_at (by rw [which_first ha hb]; omega)⟩
      have ea1 : (((stM x r g 0) : Int) == 1) = true := by rw [ha]; rfl
      have eb1 : (((stM y r g 1) : Int) == 1) = false := by rw [beq_eq_false_iff_ne]; intro h; exact hb (by omega)
      rw [HR.out.1, HR.out.2]
      have HX := Lib.hid (Ext.refl w)
      generalize stM x r g 0 = sa at *
      generalize stM y r g 1 = sb at *
      generalize hva : mfl x r g 0 3 = va at *
      generalize hvb : mfl y r g 1 3 = vb at *
      clear hva hvb ha hb
      go_enter Tryz.func68, Tryz.ntmps68
      go_wp2_with fail
      refine (HM0.out _ HX.out).mono ?_
      rintro e w1 ⟨A0, N0, k0, rfl, _, hx⟩
      have HX := Lib.hid (HX.out.trans hx)
      have HX := Lib.hid (HX.out.alloc (.cells #[.int .i64 (mfl x r g 0 0 : Nat), .int .i64 (mfl x r g 0 1 : Nat), .int .i64 (mfl x r g 0 2 : Nat), .int .i64 (va : Nat), .int .i64 (mfl x r g 0 4 : Nat)] 33))
      have HT0 := Lib.hid (heap_alloc_new w1 (.cells #[.int .i64 (mfl x r g 0 0 : Nat), .int .i64 (mfl x r g 0 1 : Nat), .int .i64 (mfl x r g 0 2 : Nat), .int .i64 (va : Nat), .int .i64 (mfl x r g 0 4 : Nat)] 33))
      clear hx
      go_wp2_with fail
      refine (HM1.out _ HX.out).mono ?_
      rintro e w2 ⟨A1, N1, k1, rfl, _, hx⟩
      have HX := Lib.hid (HX.out.trans hx)
      have HT0 := Lib.hid ((hx.block _ (Array.getElem?_eq_some_iff.1 HT0.out).1).trans HT0.out)
      have HT0 := Lib.hid ((heap_alloc_old w2 (.cells #[.int .i64 (mfl y r g 1 0 : Nat), .int .i64 (mfl y r g 1 1 : Nat), .int .i64 (mfl y r g 1 2 : Nat), .int .i64 (vb : Nat), .int .i64 (mfl y r g 1 4 : Nat)] 33) (Array.getElem?_eq_some_iff.1 HT0.out).1).trans HT0.out)
      have HT1 := Lib.hid (heap_alloc_new w2 (.cells #[.int .i64 (mfl y r g 1 0 : Nat), .int .i64 (mfl y r g 1 1 : Nat), .int .i64 (mfl y r g 1 2 : Nat), .int .i64 (vb : Nat), .int .i64 (mfl y r g 1 4 : Nat)] 33))
      have HX := Lib.hid (HX.out.alloc (.cells #[.int .i64 (mfl y r g 1 0 : Nat), .int .i64 (mfl y r g 1 1 : Nat), .int .i64 (mfl y r g 1 2 : Nat), .int .i64 (vb : Nat), .int .i64 (mfl y r g 1 4 : Nat)] 33))
      clear hx
      go_wp2_with fail
      refine bodyPost_ret (v := .tuple #[.int .i64 (0), .int .i64 0]) (by simp [results, Tryz.results68, go_sem]) rfl ⟨rfl, HX.out⟩
  · by_cases hb : stM y r g 1 = 1
    · have HR : Hid (atC r g x y = 1 ∧ cellE r g x y = 0) := Lib.hid ⟨which_second ha hb, cellE_at (by rw [which_second ha hb]; omega)⟩
      have ea1 : (((stM x r g 0) : Int) == 1) = false := by rw [beq_eq_false_iff_ne]; intro h; exact ha (by omega)
      have eb1 : (((stM y r g 1) : Int) == 1) = true := by rw [hb]; rfl
      rw [HR.out.1, HR.out.2]
      have HX := Lib.hid (Ext.refl w)
      generalize stM x r g 0 = sa at *
      generalize stM y r g 1 = sb at *
      generalize hva : mfl x r g 0 3 = va at *
      generalize hvb : mfl y r g 1 3 = vb at *
      clear hva hvb ha hb
      go_enter Tryz.func68, Tryz.ntmps68
      go_wp2_with fail
      refine (HM0.out _ HX.out).mono ?_
      rintro e w1 ⟨A0, N0, k0, rfl, _, hx⟩
      have HX := Lib.hid (HX.out.trans hx)
      have HX := Lib.hid (HX.out.alloc (.cells #[.int .i64 (mfl x r g 0 0 : Nat), .int .i64 (mfl x r g 0 1 : Nat), .int .i64 (mfl x r g 0 2 : Nat), .int .i64 (va : Nat), .int .i64 (mfl x r g 0 4 : Nat)] 33))
      have HT0 := Lib.hid (heap_alloc_new w1 (.cells #[.int .i64 (mfl x r g 0 0 : Nat), .int .i64 (mfl x r g 0 1 : Nat), .int .i64 (mfl x r g 0 2 : Nat), .int .i64 (va : Nat), .int .i64 (mfl x r g 0 4 : Nat)] 33))
      clear hx
      go_wp2_with fail
      refine (HM1.out _ HX.out).mono ?_
      rintro e w2 ⟨A1, N1, k1, rfl, _, hx⟩
      have HX := Lib.hid (HX.out.trans hx)
      have HT0 := Lib.hid ((hx.block _ (Array.getElem?_eq_some_iff.1 HT0.out).1).trans HT0.out)
      have HT0 := Lib.hid ((heap_alloc_old w2 (.cells #[.int .i64 (mfl y r g 1 0 : Nat), .int .i64 (mfl y r g 1 1 : Nat), .int .i64 (mfl y r g 1 2 : Nat), .int .i64 (vb : Nat), .int .i64 (mfl y r g 1 4 : Nat)] 33) (Array.getElem?_eq_some_iff.1 HT0.out).1).trans HT0.out)
      have HT1 := Lib.hid (heap_alloc_new w2 (.cells #[.int .i64 (mfl y r g 1 0 : Nat), .int .i64 (mfl y r g 1 1 : Nat), .int .i64 (mfl y r g 1 2 : Nat), .int .i64 (vb : Nat), .int .i64 (mfl y r g 1 4 : Nat)] 33))
      have HX := Lib.hid (HX.out.alloc (.cells #[.int .i64 (mfl y r g 1 0 : Nat), .int .i64 (mfl y r g 1 1 : Nat), .int .i64 (mfl y r g 1 2 : Nat), .int .i64 (vb : Nat), .int .i64 (mfl y r g 1 4 : Nat)] 33))
      clear hx
      go_wp2_with fail
      refine bodyPost_ret (v := .tuple #[.int .i64 (1), .int .i64 0]) (by simp [results, Tryz.results68, go_sem]) rfl ⟨rfl, HX.out⟩
    · by_cases ha0 : stM x r g 0 = 0
      · have HR : Hid (atC r g x y = -1 ∧ cellE r g x y = 0) := Lib.hid ⟨which_none ha hb, cellE_blank (.inl ha0)⟩
        have ea1 : (((stM x r g 0) : Int) == 1) = false := by rw [beq_eq_false_iff_ne]; intro h; exact ha (by omega)
        have eb1 : (((stM y r g 1) : Int) == 1) = false := by rw [beq_eq_false_iff_ne]; intro h; exact hb (by omega)
        have ea0 : (((stM x r g 0) : Int) == 0) = true := by rw [ha0]; rfl
        rw [HR.out.1, HR.out.2]
        have HX := Lib.hid (Ext.refl w)
        generalize stM x r g 0 = sa at *
        generalize stM y r g 1 = sb at *
        generalize hva : mfl x r g 0 3 = va at *
        generalize hvb : mfl y r g 1 3 = vb at *
        clear hva hvb ha hb ha0
        go_enter Tryz.func68, Tryz.ntmps68
        go_wp2_with fail
        refine (HM0.out _ HX.out).mono ?_
        rintro e w1 ⟨A0, N0, k0, rfl, _, hx⟩
        have HX := Lib.hid (HX.out.trans hx)
        have HX := Lib.hid (HX.out.alloc (.cells #[.int .i64 (mfl x r g 0 0 : Nat), .int .i64 (mfl x r g 0 1 : Nat), .int .i64 (mfl x r g 0 2 : Nat), .int .i64 (va : Nat), .int .i64 (mfl x r g 0 4 : Nat)] 33))
        have HT0 := Lib.hid (heap_alloc_new w1 (.cells #[.int .i64 (mfl x r g 0 0 : Nat), .int .i64 (mfl x r g 0 1 : Nat), .int .i64 (mfl x r g 0 2 : Nat), .int .i64 (va : Nat), .int .i64 (mfl x r g 0 4 : Nat)] 33))
        clear hx
        go_wp2_with fail
        refine (HM1.out _ HX.out).mono ?_
        rintro e w2 ⟨A1, N1, k1, rfl, _, hx⟩
        have HX := Lib.hid (HX.out.trans hx)
        have HT0 := Lib.hid ((hx.block _ (Array.getElem?_eq_some_iff.1 HT0.out).1).trans HT0.out)
        have HT0 := Lib.hid ((heap_alloc_old w2 (.cells #[.int .i64 (mfl y r g 1 0 : Nat), .int .i64 (mfl y r g 1 1 : Nat), .int .i64 (mfl y r g 1 2 : Nat), .int .i64 (vb : Nat), .int .i64 (mfl y r g 1 4 : Nat)] 33) (Array.getElem?_eq_some_iff.1 HT0.out).1).trans HT0.out)
        have HT1 := Lib.hid (heap_alloc_new w2 (.cells #[.int .i64 (mfl y r g 1 0 : Nat), .int .i64 (mfl y r g 1 1 : Nat), .int .i64 (mfl y r g 1 2 : Nat), .int .i64 (vb : Nat), .int .i64 (mfl y r g 1 4 : Nat)] 33))
        have HX := Lib.hid (HX.out.alloc (.cells #[.int .i64 (mfl y r g 1 0 : Nat), .int .i64 (mfl y r g 1 1 : Nat), .int .i64 (mfl y r g 1 2 : Nat), .int .i64 (vb : Nat), .int .i64 (mfl y r g 1 4 : Nat)] 33))
        clear hx
        go_wp2_with fail
        refine bodyPost_ret (v := .tuple #[.int .i64 (-1), .int .i64 0]) (by simp [results, Tryz.results68, go_sem]) rfl ⟨rfl, HX.out⟩
      · by_cases hb0 : stM y r g 1 = 0
        · have HR : Hid (atC r g x y = -1 ∧ cellE r g x y = 0) := Lib.hid ⟨which_none ha hb, cellE_blank (.inr hb0)⟩
          have ea1 : (((stM x r g 0) : Int) == 1) = false := by rw [beq_eq_false_iff_ne]; intro h; exact ha (by omega)
          have eb1 : (((stM y r g 1) : Int) == 1) = false := by rw [beq_eq_false_iff_ne]; intro h; exact hb (by omega)
          have ea0 : (((stM x r g 0) : Int) == 0) = false := by rw [beq_eq_false_iff_ne]; intro h; exact ha0 (by omega)
          have eb0 : (((stM y r g 1) : Int) == 0) = true := by rw [hb0]; rfl
          rw [HR.out.1, HR.out.2]
          have HX := Lib.hid (Ext.refl w)
          generalize stM x r g 0 = sa at *
          generalize stM y r g 1 = sb at *
          generalize hva : mfl x r g 0 3 = va at *
          generalize hvb : mfl y r g 1 3 = vb at *
          clear hva hvb ha hb ha0 hb0
          go_enter Tryz.func68, Tryz.ntmps68
          go_wp2_with fail
          refine (HM0.out _ HX.out).mono ?_
          rintro e w1 ⟨A0, N0, k0, rfl, _, hx⟩
          have HX := Lib.hid (HX.out.trans hx)
          have HX := Lib.hid (HX.out.alloc (.cells #[.int .i64 (mfl x r g 0 0 : Nat), .int .i64 (mfl x r g 0 1 : Nat), .int .i64 (mfl x r g 0 2 : Nat), .int .i64 (va : Nat), .int .i64 (mfl x r g 0 4 : Nat)] 33))
          have HT0 := Lib.hid (heap_alloc_new w1 (.cells #[.int .i64 (mfl x r g 0 0 : Nat), .int .i64 (mfl x r g 0 1 : Nat), .int .i64 (mfl x r g 0 2 : Nat), .int .i64 (va : Nat), .int .i64 (mfl x r g 0 4 : Nat)] 33))
          clear hx
          go_wp2_with fail
          refine (HM1.out _ HX.out).mono ?_
          rintro e w2 ⟨A1, N1, k1, rfl, _, hx⟩
          have HX := Lib.hid (HX.out.trans hx)
          have HT0 := Lib.hid ((hx.block _ (Array.getElem?_eq_some_iff.1 HT0.out).1).trans HT0.out)
          have HT0 := Lib.hid ((heap_alloc_old w2 (.cells #[.int .i64 (mfl y r g 1 0 : Nat), .int .i64 (mfl y r g 1 1 : Nat), .int .i64 (mfl y r g 1 2 : Nat), .int .i64 (vb : Nat), .int .i64 (mfl y r g 1 4 : Nat)] 33) (Array.getElem?_eq_some_iff.1 HT0.out).1).trans HT0.out)
          have HT1 := Lib.hid (heap_alloc_new w2 (.cells #[.int .i64 (mfl y r g 1 0 : Nat), .int .i64 (mfl y r g 1 1 : Nat), .int .i64 (mfl y r g 1 2 : Nat), .int .i64 (vb : Nat), .int .i64 (mfl y r g 1 4 : Nat)] 33))
          have HX := Lib.hid (HX.out.alloc (.cells #[.int .i64 (mfl y r g 1 0 : Nat), .int .i64 (mfl y r g 1 1 : Nat), .int .i64 (mfl y r g 1 2 : Nat), .int .i64 (vb : Nat), .int .i64 (mfl y r g 1 4 : Nat)] 33))
          clear hx
          go_wp2_with fail
          refine bodyPost_ret (v := .tuple #[.int .i64 (-1), .int .i64 0]) (by simp [results, Tryz.results68, go_sem]) rfl ⟨rfl, HX.out⟩
        · have HR : Hid (atC r g x y = -1 ∧ cellE r g x y = 70) := Lib.hid ⟨which_none ha hb, cellE_bad ha hb ha0 hb0⟩
          have ea1 : (((stM x r g 0) : Int) == 1) = false := by rw [beq_eq_false_iff_ne]; intro h; exact ha (by omega)
          have eb1 : (((stM y r g 1) : Int) == 1) = false := by rw [beq_eq_false_iff_ne]; intro h; exact hb (by omega)
          have ea0 : (((stM x r g 0) : Int) == 0) = false := by rw [beq_eq_false_iff_ne]; intro h; exact ha0 (by omega)
          have eb0 : (((stM y r g 1) : Int) == 0) = false := by rw [beq_eq_false_iff_ne]; intro h; exact hb0 (by omega)
          rw [HR.out.1, HR.out.2]
          have HX := Lib.hid (Ext.refl w)
          generalize stM x r g 0 = sa at *
          generalize stM y r g 1 = sb at *
          generalize hva : mfl x r g 0 3 = va at *
          generalize hvb : mfl y r g 1 3 = vb at *
          clear hva hvb ha hb ha0 hb0
          go_enter Tryz.func68, Tryz.ntmps68
          go_wp2_with fail
          refine (HM0.out _ HX.out).mono ?_
          rintro e w1 ⟨A0, N0, k0, rfl, _, hx⟩
          have HX := Lib.hid (HX.out.trans hx)
          have HX := Lib.hid (HX.out.alloc (.cells #[.int .i64 (mfl x r g 0 0 : Nat), .int .i64 (mfl x r g 0 1 : Nat), .int .i64 (mfl x r g 0 2 : Nat), .int .i64 (va : Nat), .int .i64 (mfl x r g 0 4 : Nat)] 33))
          have HT0 := Lib.hid (heap_alloc_new w1 (.cells #[.int .i64 (mfl x r g 0 0 : Nat), .int .i64 (mfl x r g 0 1 : Nat), .int .i64 (mfl x r g 0 2 : Nat), .int .i64 (va : Nat), .int .i64 (mfl x r g 0 4 : Nat)] 33))
          clear hx
          go_wp2_with fail
          refine (HM1.out _ HX.out).mono ?_
          rintro e w2 ⟨A1, N1, k1, rfl, _, hx⟩
          have HX := Lib.hid (HX.out.trans hx)
          have HT0 := Lib.hid ((hx.block _ (Array.getElem?_eq_some_iff.1 HT0.out).1).trans HT0.out)
          have HT0 := Lib.hid ((heap_alloc_old w2 (.cells #[.int .i64 (mfl y r g 1 0 : Nat), .int .i64 (mfl y r g 1 1 : Nat), .int .i64 (mfl y r g 1 2 : Nat), .int .i64 (vb : Nat), .int .i64 (mfl y r g 1 4 : Nat)] 33) (Array.getElem?_eq_some_iff.1 HT0.out).1).trans HT0.out)
          have HT1 := Lib.hid (heap_alloc_new w2 (.cells #[.int .i64 (mfl y r g 1 0 : Nat), .int .i64 (mfl y r g 1 1 : Nat), .int .i64 (mfl y r g 1 2 : Nat), .int .i64 (vb : Nat), .int .i64 (mfl y r g 1 4 : Nat)] 33))
          have HX := Lib.hid (HX.out.alloc (.cells #[.int .i64 (mfl y r g 1 0 : Nat), .int .i64 (mfl y r g 1 1 : Nat), .int .i64 (mfl y r g 1 2 : Nat), .int .i64 (vb : Nat), .int .i64 (mfl y r g 1 4 : Nat)] 33))
          clear hx
          go_wp2_with fail
          refine bodyPost_ret (v := .tuple #[.int .i64 (-1), .int .i64 70]) (by simp [results, Tryz.results68, go_sem]) rfl ⟨rfl, HX.out⟩
end Go.Proofs.YtlikhmhomkiadaaGreatDoor
