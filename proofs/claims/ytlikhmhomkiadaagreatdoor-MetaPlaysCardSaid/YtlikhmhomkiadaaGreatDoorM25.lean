/-
  The contract of the statements' tells: what the program's disk tells, what the document's tells, and what of it is overwritten.
  The program's disk and the document's disk side by side: an act at either leaves the other as it was.
  Steps of a disk, one behind the other.
  The ghost statements' Do and Same: an act at the program's disk, at the document's; both side by side.
  The document's observers over its disk: hurt, Hurt.
-/
import Derived.Test.YtlikhmhomkiadaaGreatDoorM06
import Derived.Test.YtlikhmhomkiadaaGreatDoorM07
import Derived.Test.YtlikhmhomkiadaaGreatDoorM17
import Derived.Test.YtlikhmhomkiadaaGreatDoorM22
import Derived.Test.YtlikhmhomkiadaaGreatDoorM23
import Derived.Test.YtlikhmhomkiadaaGreatDoorM24
namespace Go.Proofs.YtlikhmhomkiadaaGreatDoor
set_option maxRecDepth 100000
open Go Go.RowKit

/-- A byte of told bytes is stored into. -/
theorem New.put {B : Nat} {w : World} {A : Option Addr} {n : Nat} {l : List Nat} (h : New B w A n l) {k : Nat} (hk : k < n) : ∃ g x : Nat, A = some ⟨g, 0, none⟩ ∧ B ≤ g ∧ x < 256 ∧ w.cell? ⟨g, k, none⟩ = some (.int .u8 (x : Int)) ∧ w.frozen? ⟨g, k, none⟩ = false ∧ g < w.heap.size ∧
    ∀ y : Nat, y < 256 → New B (w.setCell ⟨g, k, none⟩ (.int .u8 (y : Int))) A n (l.set k y) := by
  rcases h.at_ with ⟨h0, _⟩ | ⟨g, t, e, hB, hg⟩
  · omega
  have hkl : k < l.length := by rw [h.len]; exact hk
  refine ⟨g, l[k], e, hB, h.lt _ (List.getElem_mem hkl), ?_, frozen_of_row w g k _ _ hg, (Array.getElem?_eq_some_iff.1 hg).1, fun y hy => ⟨by rw [List.length_set]; exact h.len, mem_set_of h.lt hy, .inr ⟨g, t, e, hB, row_set k hg _ ?_⟩, h.le⟩⟩
  · rw [cell_of_row w g k _ _ _ hg]
    exact vb_at (List.getElem?_eq_getElem hkl)
  · rw [List.setIfInBounds_toArray, vb_set]

/-- Three told rows, each in a block of its own. -/
structure Ttl (w wr : World) (A : Option Addr) (na : Nat) (X : Option Addr) (nx : Nat) (P : Option Addr) (np : Nat) (lp : List Nat) : Prop where
  bel : Ext w wr
  a : ∃ l, New w.heap.size wr A na l
  x : ∃ l, New w.heap.size wr X nx l
  p : New w.heap.size wr P np lp
  ax : ∀ q r, A = some q → X = some r → q.block ≠ r.block
  ap : ∀ q r, A = some q → P = some r → q.block ≠ r.block
  xp : ∀ q r, X = some q → P = some r → q.block ≠ r.block
section
variable {w wr : World} {A X P : Option Addr} {na nx np : Nat} {lp : List Nat}
theorem Ttl.ext (h : Ttl w wr A na X nx P np lp) {w' : World} (k : Ext wr w') : Ttl w w' A na X nx P np lp :=
  ⟨h.bel.trans k, h.a.imp fun _ h => h.ext k, h.x.imp fun _ h => h.ext k, h.p.ext k, h.ax, h.ap, h.xp⟩
/-- The last of them, behind the comparison. -/
structure Tlp (w wr : World) (P : Option Addr) (np : Nat) : Prop where
  bel : Ext w wr
  p : ∃ l, New w.heap.size wr P np l
theorem Tlp.put (h : Tlp w wr P np) {k : Nat} (hk : k < np) : ∃ g x : Nat, P = some ⟨g, 0, none⟩ ∧ x < 256 ∧ wr.cell? ⟨g, k, none⟩ = some (.int .u8 (x : Int)) ∧ wr.frozen? ⟨g, k, none⟩ = false ∧ g < wr.heap.size ∧
    ∀ y : Nat, y < 256 → Tlp w (wr.setCell ⟨g, k, none⟩ (.int .u8 (y : Int))) P np := by
  obtain ⟨l, hl⟩ := h.p
  obtain ⟨g, x, e, hB, hx, h1, h2, h3, h4⟩ := hl.put hk
  refine ⟨g, x, e, hx, h1, h2, h3, fun y hy => ?_⟩
  exact ⟨Below.mod h.bel (mod_one wr g k (.int .u8 (y : Int))) h.bel.size (fun i e => by subst e; exact hB), ⟨_, h4 y hy⟩⟩
end
end Go.Proofs.YtlikhmhomkiadaaGreatDoor

namespace Go.Proofs.YtlikhmhomkiadaaGreatDoor
set_option maxRecDepth 100000
open Go Go.RowKit

structure Both (w0 w : World) (d r : Nat) (F : Nat → Prop) (p : Nat → Nat) (m m' : DM) : Prop where
  dk : DK w0 w d F m
  rd : RD w r p m'
  low : ∀ i, p i ≠ 0 → w0.heap.size ≤ i
  apart : ∀ i, p i ≠ 0 → ¬ F i
section
variable {w0 w : World} {d r : Nat} {F : Nat → Prop} {p : Nat → Nat} {m m' m2 : DM}
theorem Both.ext (h : Both w0 w d r F p m m') {w' : World} (k : Ext w w') : Both w0 w' d r F p m m' := ⟨h.dk.ext k, h.rd.ext k, h.low, h.apart⟩
theorem Both.new {w1 w2 : World} {n : Nat} (hx : Ext w0 w) (hp : PDisk w1 d (fun k => w.heap.size ≤ k ∧ k < w1.heap.size) (DM.new n)) (hx1 : Ext w w1) (hr : RD w2 r p (DM.new n)) (hl : ∀ k, p k ≠ 0 → w1.heap.size ≤ k) (hx2 : Ext w1 w2) : Both w0 w2 d r (fun k => w.heap.size ≤ k ∧ k < w1.heap.size) p (DM.new n) (DM.new n) :=
  ⟨DK.ext ⟨hp, fun k hk => Nat.le_trans hx.size hk.1, hx.trans hx1⟩ hx2, hr, fun i hi => Nat.le_trans (hx.trans hx1).size (hl i hi), fun i hi hf => by have := hl i hi; omega⟩
end
end Go.Proofs.YtlikhmhomkiadaaGreatDoor

namespace Go.Proofs.YtlikhmhomkiadaaGreatDoor
set_option maxRecDepth 100000
open Go Go.RowKit

/-- A step of a disk: what it is then, and that no block but its own was written. -/
def Step (d : Nat) (F : Nat → Prop) (w : World) (m' : DM) (w' : World) : Prop := PDisk w' d (grow F w w') m' ∧ Mod F w w'
theorem PDisk.more {w : World} {d : Nat} {F G : Nat → Prop} {m : DM} (h : PDisk w d F m) (hG : ∀ k, F k → G k) (hl : ∀ k, G k → k < w.heap.size) : PDisk w d G m := by
  obtain ⟨g, pv, hp, h2, _⟩ := h
  exact ⟨g, pv, hp, fun k hk => hG k (h2 k hk), hl⟩
theorem Step.of_ext {w w' : World} {d : Nat} {F : Nat → Prop} {m : DM} (h : PDisk w d F m) (hx : Ext w w') : Step d F w m w' :=
  ⟨(h.ext hx).more (fun _ hk => .inl hk) (fun k hk => hk.elim (fun h1 => Nat.lt_of_lt_of_le (h.lt k h1) hx.size) (fun h1 => h1.2)), Mod.of_ext hx⟩
theorem Step.trans {w w1 w2 : World} {d : Nat} {F : Nat → Prop} {m1 m2 : DM} (h : Step d F w m1 w1) (k : Step d (grow F w w1) w1 m2 w2) : Step d F w m2 w2 := by
  refine ⟨k.1.more (fun i hi => ?_) (fun i hi => ?_), h.2.trans k.2 fun i hi => hi.imp id fun h1 => h1.1⟩
  · rcases hi with (hi | hi) | hi
    · exact .inl hi
    · exact .inr ⟨hi.1, Nat.lt_of_lt_of_le hi.2 k.2.size⟩
    · exact .inr ⟨Nat.le_trans h.2.size hi.1, hi.2⟩
  · rcases hi with hi | hi
    · exact k.1.lt i (.inl (.inl hi))
    · exact hi.2
theorem Step.pre {w w1 w2 : World} {d : Nat} {F : Nat → Prop} {m : DM} (hx : Ext w w1) (h : Step d F w1 m w2) : Step d F w m w2 :=
  ⟨h.1.more (fun _ hi => hi.imp id fun h1 => ⟨Nat.le_trans hx.size h1.1, h1.2⟩) (fun i hi => hi.elim (fun h1 => h.1.lt i (.inl h1)) (fun h1 => h1.2)), (Mod.of_ext hx).trans h.2 fun _ hi => .inl hi⟩
theorem Outc.step {d : Nat} {F : Nat → Prop} {w : World} {E : Int} {m' : DM} {e : Ending} {w' : World} (h : Outc d F w E m' e w') : e = .returned (.int .i64 E) ∧ Step d F w m' w' := ⟨h.1, h.2.1, h.2.2⟩
theorem Step.ext {w w1 w2 : World} {d : Nat} {F : Nat → Prop} {m1 : DM} (h : Step d F w m1 w1) (hx : Ext w1 w2) : Step d F w m1 w2 := h.trans (Step.of_ext h.1 hx)
end Go.Proofs.YtlikhmhomkiadaaGreatDoor

namespace Go.Proofs.YtlikhmhomkiadaaGreatDoor
set_option maxRecDepth 100000
open Go Go.RowKit

theorem left_step {w0 w w2 v : World} {d : Nat} {F F' : Nat → Prop} {m : DM} (hF : ∀ i, F i → i < w.heap.size) (hx : Ext w w2) (h : Left w0 w2 d F' (fun i => F i ∨ w2.heap.size ≤ i) v m) : Step d F w m v :=
  ⟨h.dk.disk.more (fun i hi => (h.le i hi).imp id fun h1 => ⟨Nat.le_trans hx.size h1, h.dk.disk.lt i hi⟩) (fun i hi => hi.elim (fun h1 => Nat.lt_of_lt_of_le (hF i h1) (Nat.le_trans hx.size h.mod.size)) (fun h1 => h1.2)),
    (Mod.of_ext hx).trans h.mod fun _ hi => hi.imp id fun h1 => Nat.le_trans hx.size h1⟩
/-- What the document's calls have left behind. -/
structure RLeft (w2 : World) (d : Nat) (p p' : Nat → Nat) (v : World) (m : DM) : Prop where
  rd : RD v d p' m
  le : ∀ i, p' i ≠ 0 → p i ≠ 0 ∨ w2.heap.size ≤ i
  mod : Mod (fun i => p i ≠ 0 ∨ w2.heap.size ≤ i) w2 v
section
variable {w0 w w2 v v' : World} {d : Nat} {p p' : Nat → Nat} {m m2 : DM}
theorem RLeft.ext (h : RLeft w2 d p p' v m) (hx : Ext v v') : RLeft w2 d p p' v' m := ⟨h.rd.ext hx, h.le, h.mod.ext hx⟩
theorem RLeft.bel (h : RLeft w2 d p p' v m) (hx : Ext w0 w2) (hl : ∀ i, p i ≠ 0 → w0.heap.size ≤ i) : Ext w0 v := Below.mod hx h.mod hx.size fun i hi => hi.elim (hl i) fun h1 => Nat.le_trans hx.size h1
theorem RLeft.step (h : RLeft w2 d p p' v m) (ho : ROut d p' v m2 v') : ∃ p2, RLeft w2 d p p2 v' m2 := by
  obtain ⟨p2, h1, h2, h3⟩ := ho
  exact ⟨p2, h1, fun i hi => (h3 i hi).elim (h.le i) fun h4 => .inr (Nat.le_trans h.mod.size h4), h.mod.trans h2 fun i hi => .inl (h.le i hi)⟩
theorem RLeft.out (hx : Ext w w2) (h : RLeft w2 d p p' v m) : ROut d p w m v :=
  ⟨p', h.rd, ((Mod.of_ext hx).trans (F := fun k => p k ≠ 0) h.mod fun _ hi => hi.imp id fun h1 => Nat.le_trans hx.size h1), fun i hi => (h.le i hi).imp id fun h1 => Nat.le_trans hx.size h1⟩
end
theorem roff_piece {G : Nat → Prop} {p : Nat → Nat} {g o o' : Nat} (hp : ∀ i, p i ≠ 0 → G i) (h : Off G (some ⟨g, o, none⟩)) : ¬ ∃ g2 o2, (some ⟨g, o', none⟩ : Option Addr) = some ⟨g2, o2, none⟩ ∧ p g2 ≠ 0 := by
  rintro ⟨g2, o2, e, hg⟩
  injection e with e
  injection e with e _
  subst e
  exact h _ rfl (hp _ hg)

set_option maxRecDepth 100000 in
set_option maxHeartbeats 2400000 in
theorem do6_step {w0 w : World} {d : Nat} {F : Nat → Prop} {m : DM} (h : DK w0 w d F m) (hL : LaidT w0) (x : Act6) (hx : x.Ok w0 w0.heap.size) (hs : x.sl = true) (hfew : m.waits.length ≤ 1000) :
    Calls Tryz.prog 9 #[.pointer (some ⟨d, 0, none⟩), .agg #[.bool x.sl, .int .i64 x.ta, .int .i64 x.tb, .int .i64 x.tc, .int .i64 x.td, .int .i64 x.te, .slice x.bA x.bn x.bc, .int .u8 (x.act.kind : Int), .int .i64 x.act.sec, .int .i64 x.act.num, .slice x.act.bA x.act.bn x.act.bc, .slice x.act.kA x.act.kn x.act.kc]] w fun e w' => (∃ v, e = .returned v) ∧ Step d F w (m.act6 x) w' := by
  have hB := heap_alloc_new w (box6 x)
  have hE := (Ext.refl w).alloc (box6 x)
  have hlt : w.heap.size < (w.alloc (box6 x)).heap.size := by simp
  have HB := Lib.hid hB
  have HE := Lib.hid hE
  have H := Lib.hid h
  have HL := Lib.hid hL
  have HBY : Hid (By w x.bA x.bn x.bc x.bl) := Lib.hid ((hx.body.below h.bel).more h.bel.size)
  obtain ⟨c0, c1, c2, c3, c4, c5, c6, c7, c8, c9, c10, c11⟩ := box6_cells hB
  obtain ⟨W, hW⟩ : ∃ W, wideN x.ta x.tb x.tc x.td x.te = W := ⟨_, rfl⟩
  have hW2 := wideN_le x.ta x.tb x.tc x.td x.te
  rw [hW] at hW2
  obtain ⟨E, hEE⟩ : ∃ E, x.sE = E := ⟨_, rfl⟩
  obtain ⟨L, hLL⟩ : ∃ L, x.sL = L := ⟨_, rfl⟩
  obtain ⟨S, hS⟩ : ∃ S, firstS x.tb x.tc = S := ⟨_, rfl⟩
  have hSb : -1 ≤ S ∧ S ≤ 156 := by rw [← hS]; exact firstS_in x.tb x.tc
  have HACT : Hid (m.act6 x = if E = 0 then m.puts S L W else m) := Lib.hid (by unfold DM.act6; rw [if_pos hs, hEE, hS, hLL, hW])
  have hwd : ∀ V, Ext w0 V → Calls Tryz.prog 40 #[.agg #[.int .i64 x.ta, .int .i64 x.tb, .int .i64 x.tc, .int .i64 x.td, .int .i64 x.te]] V fun r w' => r = .returned (.int .i64 (W : Nat)) ∧ Ext V w' := fun V hV => by
    have := wide6_any x.ta x.tb x.tc x.td x.te V (hL.ext hV)
    rwa [hW] at this
  have hsl : ∀ V, Ext w V → Calls Tryz.prog 39 #[.agg #[.int .i64 x.ta, .int .i64 x.tb, .int .i64 x.tc, .int .i64 x.td, .int .i64 x.te], .slice x.bA x.bn x.bc, .int .i64 (W : Nat)] V fun r w' => ∃ A' c', r = .returned (.tuple #[.slice A' L.length c', .int .i64 E]) ∧ By w' A' L.length c' L ∧ Ext V w' ∧ w'.ownsRow V.heap.size 5 1 (.slice A' L.length c') L.length (vb L) := fun V hV => by
    have := rseal_own x.ta x.tb x.tc x.td x.te (W : Nat) x.bA x.bn x.bc x.bl V (HBY.out.ext hV)
    unfold Act6.sE Act6.sL at *
    rw [hW] at hEE hLL
    rwa [hEE, hLL] at this
  have hlen : E = 0 → L.length = 64 * W ∧ 1 ≤ W := fun h0 => by
    have hbl : x.bl.length = x.bn := hx.body.len
    unfold Act6.sE at hEE
    unfold Act6.sL at hLL
    rw [hW] at hEE hLL
    rw [← hLL]
    have := (sealL_len (a := x.ta) (b := x.tb) (c := x.tc) (d := x.td) (e := x.te) (body := x.bl) (s := (W : Nat)) (by rw [hbl, hEE]; exact h0))
    rw [this.1, Int.toNat_natCast]
    exact ⟨rfl, by omega⟩
  have hfst : ∀ V, Ext w0 V → Calls Tryz.prog 42 #[.int .i64 x.tb, .int .i64 x.tc] V fun r w' => r = .returned (.int .i64 S) ∧ Ext V w' := fun V hV => by
    have := first_any x.tb x.tc V (hL.ext hV)
    rwa [hS] at this
  have HWD := Lib.hid hwd
  have HSL := Lib.hid hsl
  have HLEN := Lib.hid hlen
  rw [hs] at c0 ⊢
  have hBX : box6 x = .cells #[.bool true, .int .i64 x.ta, .int .i64 x.tb, .int .i64 x.tc, .int .i64 x.td, .int .i64 x.te, .slice x.bA x.bn x.bc, .int .u8 (x.act.kind : Int), .int .i64 x.act.sec, .int .i64 x.act.num, .slice x.act.bA x.act.bn x.act.bc, .slice x.act.kA x.act.kn x.act.kc] 39 := by unfold box6; rw [hs]
  rw [hBX] at hE c0 c1 c2 c3 c4 c5 c6 c7 c8 c9 c10 c11
  have HEX : Hid (Ext w (w.alloc (.cells #[.bool true, .int .i64 x.ta, .int .i64 x.tb, .int .i64 x.tc, .int .i64 x.td, .int .i64 x.te, .slice x.bA x.bn x.bc, .int .u8 (x.act.kind : Int), .int .i64 x.act.sec, .int .i64 x.act.num, .slice x.act.bA x.act.bn x.act.bc, .slice x.act.kA x.act.kn x.act.kc] 39)).drew) := Lib.hid hE.drew
  have HS := Lib.hid hfst
  have HEX0 := Lib.hid (h.bel.trans HEX.out)
  rw [hBX] at HB hlt
  clear h hL hx hEE hLL hS hW hwd hsl hlen hfst HBY hB hE HE
  go_enter Tryz.func9, Tryz.ntmps9
  go_wp2_with fail
  have hk1 : Hid (Ext (w.alloc (.cells #[.bool true, .int .i64 x.ta, .int .i64 x.tb, .int .i64 x.tc, .int .i64 x.td, .int .i64 x.te, .slice x.bA x.bn x.bc, .int .u8 (x.act.kind : Int), .int .i64 x.act.sec, .int .i64 x.act.num, .slice x.act.bA x.act.bn x.act.bc, .slice x.act.kA x.act.kn x.act.kc] 39)).drew (w.alloc (.cells #[.bool true, .int .i64 x.ta, .int .i64 x.tb, .int .i64 x.tc, .int .i64 x.td, .int .i64 x.te, .slice x.bA x.bn x.bc, .int .u8 (x.act.kind : Int), .int .i64 x.act.sec, .int .i64 x.act.num, .slice x.act.bA x.act.bn x.act.bc, .slice x.act.kA x.act.kn x.act.kc] 39)).drew) := Lib.hid (Ext.refl _)
  go_region_held3 (fun w' => w'.cell? ⟨w.heap.size, 1, none⟩ = some (.int .i64 x.ta) ∧ w'.cell? ⟨w.heap.size, 2, none⟩ = some (.int .i64 x.tb) ∧ w'.cell? ⟨w.heap.size, 3, none⟩ = some (.int .i64 x.tc) ∧ w'.cell? ⟨w.heap.size, 4, none⟩ = some (.int .i64 x.td) ∧ w'.cell? ⟨w.heap.size, 5, none⟩ = some (.int .i64 x.te) ∧ w'.cell? ⟨w.heap.size, 6, none⟩ = some (.slice x.bA x.bn x.bc))
    (first | exact keep_box (by assumption) rfl HB)
    (first
      | (go_at_call 40; ((with_reducible refine (HWD.out _ HEX0.out).mono ?_); rintro e w1 ⟨rfl, hx⟩; have HK1 := Lib.hid hx; have HE1 : Hid (Ext w w1) := Lib.hid (HEX.out.trans hx); clear hx))
      | (go_at_call 39; ((with_reducible refine (HSL.out _ HE1.out).mono ?_); rintro e w2 ⟨A, c, rfl, hb, hx, ho⟩; have HK2 := Lib.hid (HK1.out.trans hx); have HE2 : Hid (Ext w w2) := Lib.hid (HE1.out.trans hx); have HBL := Lib.hid hb; have HOW := Lib.hid ho; clear hx hb ho)))
  have HB2 : Hid (w2.heap[w.heap.size]? = _) := Lib.hid ((HK2.out.block _ hlt).trans HB.out)
  have H2 := Lib.hid (H.out.ext HE2.out)
  have hsz1 := HE1.out.size
  have hsz2 : w.heap.size < w2.heap.size := (Array.getElem?_eq_some_iff.1 HB2.out).1
  clear HB HWD HSL hk1 HK1 HK2 HEX HEX0 hlt c0 c1 c2 c3 c4 c5 c6 c7 c8 c9 c10 c11
  by_cases h0 : E = 0
  · have HACT : Hid (m.act6 x = m.puts S L W) := Lib.hid (by rw [HACT.out, if_pos h0])
    subst h0
    obtain ⟨hl, hw1⟩ := HLEN.out rfl
    obtain ⟨g, o, z, rfl, hg2, _⟩ := HBL.out.rd.at_ (k := 0) (by omega)
    have hg1 : w1.heap.size ≤ g := (HOW.out.lt g rfl).1
    have hoff : Off (fun i => F i ∨ w2.heap.size ≤ i) (some ⟨g, o, none⟩) := fun p hp hh => by
      injection hp with hp
      subst hp
      rcases hh with hh | hh
      · exact absurd (H.out.disk.lt _ hh) (by show ¬ g < _; omega)
      · exact absurd hh (by show ¬ _ ≤ g; omega)
    have hGB : ¬ (fun i => F i ∨ w2.heap.size ≤ i) w.heap.size := fun hh => hh.elim (fun h1 => absurd (H.out.disk.lt _ h1) (by omega)) (fun h1 => absurd h1 (by omega))
    have HOFF := Lib.hid hoff
    have HGB := Lib.hid hGB
    have hcap := HBL.out.cap
    have hdiv : (64 * (W : Int)).tdiv 64 = (W : Int) := by rw [Int.tdiv_eq_ediv_of_nonneg (by omega)]; omega
    have hdiv2 : (64 * (W : Int)) / 64 = (W : Int) := by omega
    rw [hl] at HBL HOW hcap
    rw [hl]
    have HBL := Lib.hid HBL.out
    clear hoff hGB HOW hl
    go_wp2_with fail
    go_loopw [6] (fun i wr => ∃ (k : Nat) (F' : Nat → Prop), k ≤ W ∧ i = .int .i64 k ∧ Hid (Left w0 w2 d F' (fun i => F i ∨ w2.heap.size ≤ i) wr (m.puts S L k))) (fun i _ => W - (intOf i).toNat)
    case atStart => exact ⟨0, F, Nat.zero_le _, rfl, Lib.hid ⟨H2.out, fun i hi => .inl hi, Mod.refl _ _⟩⟩
    case round =>
      obtain ⟨k, F', hk, rfl, HLF⟩ := hrel
      by_cases hlt : k < W
      · have hkk : 64 * k + 64 ≤ 64 * W := by omega
        have hcut : ∀ V : World, (Instr.slice 34 (.slice (some ⟨g, o, none⟩) (64 * W) c) (some (.int .i64 (64 * (k : Int)))) (some (.int .i64 (64 * (k : Int) + 64))) none).run Tryz.prog V = .ok (.slice (some ⟨g, o + 64 * k, none⟩) 64 (c - 64 * k)) V := fun V => by
          have := cut_mid g o (64 * W) c (64 * k) (64 * k + 64) (by omega) (by omega) (by omega) V
          rw [show 64 * k + 64 - 64 * k = 64 by omega] at this
          rw [show (64 * (k : Int)) = ((64 * k : Nat) : Int) by omega, show (((64 * k : Nat) : Int) + 64) = ((64 * k + 64 : Nat) : Int) by omega]
          exact this
        have q1 : IntKind.i64.wrap (64 * (k : Int)) = 64 * (k : Int) := IntWalk.i64_in _ (by omega)
        have q2 : IntKind.i64.wrap (64 * (k : Int) + 64) = 64 * (k : Int) + 64 := IntWalk.i64_in _ (by omega)
        have q3 : IntKind.i64.wrap (S + (k : Int)) = S + (k : Int) := IntWalk.i64_in _ (by omega)
        have HDa := Lib.hid (HLF.out.ext (Ext.refl wr).drew)
        have HMa := Lib.hid HDa.out.mod
        have HWa := Lib.hid HDa.out.dk.bel
        have HFW : Hid ((m.puts S L k).waits.length ≤ 1000000) := Lib.hid (by have := puts_waits m S L k; omega)
        have hnext : m.puts S L (k + 1) = ((m.puts S L k).write (S + (k : Int)) ((L.drop (64 * k)).take 64)).2 := rfl
        have HNX := Lib.hid hnext
        have HKK := Lib.hid hkk
        clear hnext
        go_wp2_with fail
        go_region_held3 (fun w' => w'.cell? ⟨w.heap.size, 2, none⟩ = some (.int .i64 x.tb) ∧ w'.cell? ⟨w.heap.size, 3, none⟩ = some (.int .i64 x.tc))
          (first | exact keep_two2 (by assumption) HGB HB2)
          (first
            | (go_at_call 42; ((with_reducible refine (HS.out _ HWa.out).mono ?_); rintro e wv ⟨rfl, hx⟩; have HDb := Lib.hid (HDa.out.ext hx); have HMb := Lib.hid HDb.out.mod; clear hx))
            | (go_at_call 41; ((with_reducible refine (write_pd HDb.out.dk.disk (S + (k : Int)) (some ⟨g, o + 64 * k, none⟩) 64 (c - 64 * k) _ ((HBL.out.mod HMb.out HOFF.out).piece (64 * k) HKK.out) (off_piece HDb.out.le HOFF.out) HFW.out).mono ?_); unfold Outc; rintro e wz ⟨rfl, hp, hm⟩; have HDc := Lib.hid (HDb.out.step (fun i hi => .inr (Nat.le_trans HMb.out.size hi)) hp hm); have HMc := Lib.hid HDc.out.mod; clear hp hm)))
        go_wp2_with fail
        go_roundw
        case rel => exact ⟨k + 1, _, by omega, by go_num, by rw [HNX.out]; exact HDc⟩
        case measure => simp [intOf]; omega
      · obtain rfl : k = W := by omega
        go_wp2_with fail
        go_end0
        exact ⟨⟨_, rfl⟩, by rw [HACT.out]; exact left_step H.out.disk.lt HE2.out HLF.out⟩
  · have hne : (E == 0) = false := by simpa using h0
    have HACT : Hid (m.act6 x = m) := Lib.hid (by rw [HACT.out, if_neg h0])
    clear HLEN h0
    go_wp2_with fail
    go_loopw [6] (fun i wr => i = .int .i64 0 ∧ wr = w2) (fun _ _ => 0)
    case atStart => exact ⟨rfl, rfl⟩
    case round =>
      obtain ⟨rfl, rfl⟩ := hrel
      go_wp2_with fail
      go_end0
      exact ⟨⟨_, rfl⟩, by rw [HACT.out]; exact Step.of_ext H.out.disk HE2.out⟩

set_option maxRecDepth 100000 in
set_option maxHeartbeats 2400000 in
theorem same6_yes {w0 w : World} {d : Nat} {p : Nat → Nat} {m : DM} (h : RD w d p m) (hbel : Ext w0 w) (hlow : ∀ i, p i ≠ 0 → w0.heap.size ≤ i) (hL : LaidT w0) (x : Act6) (hx : x.Ok w0 w0.heap.size) (hs : x.sl = true) (hfew : m.waits.length ≤ 1000) :
    Calls Tryz.prog 10 #[.pointer (some ⟨d, 0, none⟩), .agg #[.bool x.sl, .int .i64 x.ta, .int .i64 x.tb, .int .i64 x.tc, .int .i64 x.td, .int .i64 x.te, .slice x.bA x.bn x.bc, .int .u8 (x.act.kind : Int), .int .i64 x.act.sec, .int .i64 x.act.num, .slice x.act.bA x.act.bn x.act.bc, .slice x.act.kA x.act.kn x.act.kc]] w fun e w' => (∃ v, e = .returned v) ∧ ROut d p w (m.act6 x) w' := by
  have hB := heap_alloc_new w (box6 x)
  have hE := (Ext.refl w).alloc (box6 x)
  have hlt : w.heap.size < (w.alloc (box6 x)).heap.size := by simp
  have HB := Lib.hid hB
  have HE := Lib.hid hE
  have H := Lib.hid h
  have HL := Lib.hid hL
  have HBY : Hid (By w x.bA x.bn x.bc x.bl) := Lib.hid ((hx.body.below hbel).more hbel.size)
  obtain ⟨c0, c1, c2, c3, c4, c5, c6, c7, c8, c9, c10, c11⟩ := box6_cells hB
  obtain ⟨W, hW⟩ : ∃ W, wideN x.ta x.tb x.tc x.td x.te = W := ⟨_, rfl⟩
  have hW2 := wideN_le x.ta x.tb x.tc x.td x.te
  rw [hW] at hW2
  obtain ⟨E, hEE⟩ : ∃ E, x.sE = E := ⟨_, rfl⟩
  obtain ⟨L, hLL⟩ : ∃ L, x.sL = L := ⟨_, rfl⟩
  obtain ⟨S, hS⟩ : ∃ S, firstS x.tb x.tc = S := ⟨_, rfl⟩
  have hSb : -1 ≤ S ∧ S ≤ 156 := by rw [← hS]; exact firstS_in x.tb x.tc
  have HACT : Hid (m.act6 x = if E = 0 then m.puts S L W else m) := Lib.hid (by unfold DM.act6; rw [if_pos hs, hEE, hS, hLL, hW])
  have hwd : ∀ V, Ext w0 V → Calls Tryz.prog 40 #[.agg #[.int .i64 x.ta, .int .i64 x.tb, .int .i64 x.tc, .int .i64 x.td, .int .i64 x.te]] V fun r w' => r = .returned (.int .i64 (W : Nat)) ∧ Ext V w' := fun V hV => by
    have := wide6_any x.ta x.tb x.tc x.td x.te V (hL.ext hV)
    rwa [hW] at this
  have hsl : ∀ V, Ext w V → Calls Tryz.prog 39 #[.agg #[.int .i64 x.ta, .int .i64 x.tb, .int .i64 x.tc, .int .i64 x.td, .int .i64 x.te], .slice x.bA x.bn x.bc, .int .i64 (W : Nat)] V fun r w' => ∃ A' c', r = .returned (.tuple #[.slice A' L.length c', .int .i64 E]) ∧ By w' A' L.length c' L ∧ Ext V w' ∧ w'.ownsRow V.heap.size 5 1 (.slice A' L.length c') L.length (vb L) := fun V hV => by
    have := rseal_own x.ta x.tb x.tc x.td x.te (W : Nat) x.bA x.bn x.bc x.bl V (HBY.out.ext hV)
    unfold Act6.sE Act6.sL at *
    rw [hW] at hEE hLL
    rwa [hEE, hLL] at this
  have hlen : E = 0 → L.length = 64 * W ∧ 1 ≤ W := fun h0 => by
    have hbl : x.bl.length = x.bn := hx.body.len
    unfold Act6.sE at hEE
    unfold Act6.sL at hLL
    rw [hW] at hEE hLL
    rw [← hLL]
    have := (sealL_len (a := x.ta) (b := x.tb) (c := x.tc) (d := x.td) (e := x.te) (body := x.bl) (s := (W : Nat)) (by rw [hbl, hEE]; exact h0))
    rw [this.1, Int.toNat_natCast]
    exact ⟨rfl, by omega⟩
  have hfst : ∀ V, Ext w0 V → Calls Tryz.prog 42 #[.int .i64 x.tb, .int .i64 x.tc] V fun r w' => r = .returned (.int .i64 S) ∧ Ext V w' := fun V hV => by
    have := first_any x.tb x.tc V (hL.ext hV)
    rwa [hS] at this
  have HWD := Lib.hid hwd
  have HSL := Lib.hid hsl
  have HLEN := Lib.hid hlen
  rw [hs] at c0 ⊢
  have hBX : box6 x = .cells #[.bool true, .int .i64 x.ta, .int .i64 x.tb, .int .i64 x.tc, .int .i64 x.td, .int .i64 x.te, .slice x.bA x.bn x.bc, .int .u8 (x.act.kind : Int), .int .i64 x.act.sec, .int .i64 x.act.num, .slice x.act.bA x.act.bn x.act.bc, .slice x.act.kA x.act.kn x.act.kc] 39 := by unfold box6; rw [hs]
  rw [hBX] at hE c0 c1 c2 c3 c4 c5 c6 c7 c8 c9 c10 c11
  have HEX : Hid (Ext w (w.alloc (.cells #[.bool true, .int .i64 x.ta, .int .i64 x.tb, .int .i64 x.tc, .int .i64 x.td, .int .i64 x.te, .slice x.bA x.bn x.bc, .int .u8 (x.act.kind : Int), .int .i64 x.act.sec, .int .i64 x.act.num, .slice x.act.bA x.act.bn x.act.bc, .slice x.act.kA x.act.kn x.act.kc] 39)).drew) := Lib.hid hE.drew
  have HS := Lib.hid hfst
  have HEX0 := Lib.hid (hbel.trans HEX.out)
  have HBEL := Lib.hid hbel
  have HLOW := Lib.hid hlow
  rw [hBX] at HB hlt
  clear h hL hbel hlow hx hEE hLL hS hW hwd hsl hlen hfst HBY hB hE HE
  go_enter Tryz.func10, Tryz.ntmps10
  go_wp2_with fail
  have hk1 : Hid (Ext (w.alloc (.cells #[.bool true, .int .i64 x.ta, .int .i64 x.tb, .int .i64 x.tc, .int .i64 x.td, .int .i64 x.te, .slice x.bA x.bn x.bc, .int .u8 (x.act.kind : Int), .int .i64 x.act.sec, .int .i64 x.act.num, .slice x.act.bA x.act.bn x.act.bc, .slice x.act.kA x.act.kn x.act.kc] 39)).drew (w.alloc (.cells #[.bool true, .int .i64 x.ta, .int .i64 x.tb, .int .i64 x.tc, .int .i64 x.td, .int .i64 x.te, .slice x.bA x.bn x.bc, .int .u8 (x.act.kind : Int), .int .i64 x.act.sec, .int .i64 x.act.num, .slice x.act.bA x.act.bn x.act.bc, .slice x.act.kA x.act.kn x.act.kc] 39)).drew) := Lib.hid (Ext.refl _)
  go_region_held3 (fun w' => w'.cell? ⟨w.heap.size, 1, none⟩ = some (.int .i64 x.ta) ∧ w'.cell? ⟨w.heap.size, 2, none⟩ = some (.int .i64 x.tb) ∧ w'.cell? ⟨w.heap.size, 3, none⟩ = some (.int .i64 x.tc) ∧ w'.cell? ⟨w.heap.size, 4, none⟩ = some (.int .i64 x.td) ∧ w'.cell? ⟨w.heap.size, 5, none⟩ = some (.int .i64 x.te) ∧ w'.cell? ⟨w.heap.size, 6, none⟩ = some (.slice x.bA x.bn x.bc))
    (first | exact keep_box (by assumption) rfl HB)
    (first
      | (go_at_call 40; ((with_reducible refine (HWD.out _ HEX0.out).mono ?_); rintro e w1 ⟨rfl, hx⟩; have HK1 := Lib.hid hx; have HE1 : Hid (Ext w w1) := Lib.hid (HEX.out.trans hx); clear hx))
      | (go_at_call 39; ((with_reducible refine (HSL.out _ HE1.out).mono ?_); rintro e w2 ⟨A, c, rfl, hb, hx, ho⟩; have HK2 := Lib.hid (HK1.out.trans hx); have HE2 : Hid (Ext w w2) := Lib.hid (HE1.out.trans hx); have HBL := Lib.hid hb; have HOW := Lib.hid ho; clear hx hb ho)))
  have HB2 : Hid (w2.heap[w.heap.size]? = _) := Lib.hid ((HK2.out.block _ hlt).trans HB.out)
  have H2 := Lib.hid (H.out.ext HE2.out)
  have hsz1 := HE1.out.size
  have hsz2 : w.heap.size < w2.heap.size := (Array.getElem?_eq_some_iff.1 HB2.out).1
  clear HB HWD HSL hk1 HK1 HK2 HEX HEX0 hlt c0 c1 c2 c3 c4 c5 c6 c7 c8 c9 c10 c11
  by_cases h0 : E = 0
  · have HACT : Hid (m.act6 x = m.puts S L W) := Lib.hid (by rw [HACT.out, if_pos h0])
    subst h0
    obtain ⟨hl, hw1⟩ := HLEN.out rfl
    obtain ⟨g, o, z, rfl, hg2, _⟩ := HBL.out.rd.at_ (k := 0) (by omega)
    have hg1 : w1.heap.size ≤ g := (HOW.out.lt g rfl).1
    have hoff : Off (fun i => p i ≠ 0 ∨ w2.heap.size ≤ i) (some ⟨g, o, none⟩) := fun q hq hh => by
      injection hq with hq
      subst hq
      rcases hh with hh | hh
      · exact absurd (H.out.2 _ hh) (by show ¬ g < _; omega)
      · exact absurd hh (by show ¬ _ ≤ g; omega)
    have hGB : ¬ (fun i => p i ≠ 0 ∨ w2.heap.size ≤ i) w.heap.size := fun hh => hh.elim (fun h1 => absurd (H.out.2 _ h1) (by omega)) (fun h1 => absurd h1 (by omega))
    have HOFF := Lib.hid hoff
    have HGB := Lib.hid hGB
    have hcap := HBL.out.cap
    have hdiv : (64 * (W : Int)).tdiv 64 = (W : Int) := by rw [Int.tdiv_eq_ediv_of_nonneg (by omega)]; omega
    have hdiv2 : (64 * (W : Int)) / 64 = (W : Int) := by omega
    rw [hl] at HBL HOW hcap
    rw [hl]
    have HBL := Lib.hid HBL.out
    clear hoff hGB HOW hl
    go_wp2_with fail
    go_loopw [6] (fun i wr => ∃ (k : Nat) (p' : Nat → Nat), k ≤ W ∧ i = .int .i64 k ∧ Hid (RLeft w2 d p p' wr (m.puts S L k))) (fun i _ => W - (intOf i).toNat)
    case atStart => exact ⟨0, p, Nat.zero_le _, rfl, Lib.hid ⟨H2.out, fun i hi => .inl hi, Mod.refl _ _⟩⟩
    case round =>
      obtain ⟨k, p', hk, rfl, HLF⟩ := hrel
      by_cases hlt : k < W
      · have hkk : 64 * k + 64 ≤ 64 * W := by omega
        have hcut : ∀ V : World, (Instr.slice 34 (.slice (some ⟨g, o, none⟩) (64 * W) c) (some (.int .i64 (64 * (k : Int)))) (some (.int .i64 (64 * (k : Int) + 64))) none).run Tryz.prog V = .ok (.slice (some ⟨g, o + 64 * k, none⟩) 64 (c - 64 * k)) V := fun V => by
          have := cut_mid g o (64 * W) c (64 * k) (64 * k + 64) (by omega) (by omega) (by omega) V
          rw [show 64 * k + 64 - 64 * k = 64 by omega] at this
          rw [show (64 * (k : Int)) = ((64 * k : Nat) : Int) by omega, show (((64 * k : Nat) : Int) + 64) = ((64 * k + 64 : Nat) : Int) by omega]
          exact this
        have q1 : IntKind.i64.wrap (64 * (k : Int)) = 64 * (k : Int) := IntWalk.i64_in _ (by omega)
        have q2 : IntKind.i64.wrap (64 * (k : Int) + 64) = 64 * (k : Int) + 64 := IntWalk.i64_in _ (by omega)
        have q3 : IntKind.i64.wrap (S + (k : Int)) = S + (k : Int) := IntWalk.i64_in _ (by omega)
        have HDa := Lib.hid (HLF.out.ext (Ext.refl wr).drew)
        have HMa := Lib.hid HDa.out.mod
        have HWa := Lib.hid (HDa.out.bel (HBEL.out.trans HE2.out) HLOW.out)
        have HFW : Hid ((m.puts S L k).waits.length ≤ 1000000) := Lib.hid (by have := puts_waits m S L k; omega)
        have hnext : m.puts S L (k + 1) = ((m.puts S L k).write (S + (k : Int)) ((L.drop (64 * k)).take 64)).2 := rfl
        have HNX := Lib.hid hnext
        have HKK := Lib.hid hkk
        clear hnext
        go_wp2_with fail
        go_region_held3 (fun w' => w'.cell? ⟨w.heap.size, 2, none⟩ = some (.int .i64 x.tb) ∧ w'.cell? ⟨w.heap.size, 3, none⟩ = some (.int .i64 x.tc))
          (first | exact keep_two2 (by assumption) HGB HB2)
          (first
            | (go_at_call 42; ((with_reducible refine (HS.out _ HWa.out).mono ?_); rintro e wv ⟨rfl, hx⟩; have HDb := Lib.hid (HDa.out.ext hx); have HMb := Lib.hid HDb.out.mod; clear hx))
            | (go_at_call 44; ((with_reducible refine (rwrite_out HDb.out.rd (S + (k : Int)) (some ⟨g, o + 64 * k, none⟩) 64 (c - 64 * k) _ ((HBL.out.mod HMb.out HOFF.out).piece (64 * k) HKK.out) (roff_piece HDb.out.le HOFF.out) HFW.out).mono ?_); rintro e wz ⟨rfl, ho⟩; obtain ⟨p2, hl2⟩ := HDb.out.step ho; have HDc := Lib.hid hl2; have HMc := Lib.hid HDc.out.mod; clear ho hl2)))
        go_wp2_with fail
        go_roundw
        case rel => exact ⟨k + 1, _, by omega, by go_num, by rw [HNX.out]; exact HDc⟩
        case measure => simp [intOf]; omega
      · obtain rfl : k = W := by omega
        go_wp2_with fail
        go_end0
        exact ⟨⟨_, rfl⟩, by rw [HACT.out]; exact RLeft.out HE2.out HLF.out⟩
  · have hne : (E == 0) = false := by simpa using h0
    have HACT : Hid (m.act6 x = m) := Lib.hid (by rw [HACT.out, if_neg h0])
    clear HLEN h0
    go_wp2_with fail
    go_loopw [6] (fun i wr => i = .int .i64 0 ∧ wr = w2) (fun _ _ => 0)
    case atStart => exact ⟨rfl, rfl⟩
    case round =>
      obtain ⟨rfl, rfl⟩ := hrel
      go_wp2_with fail
      go_end0
      exact ⟨⟨_, rfl⟩, by rw [HACT.out]; exact RLeft.out HE2.out ⟨H2.out, fun i hi => .inl hi, Mod.refl _ _⟩⟩

theorem Both.of_step {w0 w w' : World} {d r : Nat} {F : Nat → Prop} {p : Nat → Nat} {m m' m2 : DM} (h : Both w0 w d r F p m m') (k : Step d F w m2 w') : Both w0 w' d r (grow F w w') p m2 m' :=
  ⟨h.dk.step k.1 k.2, h.rd.mod k.2 h.apart, h.low, fun i hi hg => hg.elim (h.apart i hi) (fun hh => by have := h.rd.2 i hi; omega)⟩
end Go.Proofs.YtlikhmhomkiadaaGreatDoor

namespace Go.Proofs.YtlikhmhomkiadaaGreatDoor
set_option maxRecDepth 100000
open Go Go.RowKit

theorem rd_size {w : World} {d : Nat} {p : Nat → Nat} {m : DM} (h : RD w d p m) : 1 ≤ m.size ∧ m.size ≤ 1024 ∧ m.Ok := by
  obtain ⟨⟨q, hq⟩, _⟩ := h
  exact ⟨hq.head.n1.1, hq.head.n1.2, hq.ok⟩
end Go.Proofs.YtlikhmhomkiadaaGreatDoor
