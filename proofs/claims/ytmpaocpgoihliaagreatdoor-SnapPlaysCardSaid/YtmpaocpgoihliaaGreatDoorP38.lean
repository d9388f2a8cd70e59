/-
  An act of ghost's at the document's disk, told by what it leaves; a call's own blocks beside both disks.
-/
import Derived.Test.YtmpaocpgoihliaaGreatDoorP00
import Derived.Test.YtmpaocpgoihliaaGreatDoorP11
import Derived.Test.YtmpaocpgoihliaaGreatDoorP12
import Derived.Test.YtmpaocpgoihliaaGreatDoorP13
import Derived.Test.YtmpaocpgoihliaaGreatDoorP15
import Derived.Test.YtmpaocpgoihliaaGreatDoorP19
import Derived.Test.YtmpaocpgoihliaaGreatDoorP20
import Derived.Test.YtmpaocpgoihliaaGreatDoorP29
import Derived.Test.YtmpaocpgoihliaaGreatDoorP30
import Derived.Test.YtmpaocpgoihliaaGreatDoorP35
import Derived.Test.YtmpaocpgoihliaaGreatDoorP36
import Derived.Test.YtmpaocpgoihliaaGreatDoorP37
import Derived.ChangeMaps5
import Derived.Deep.DeepCutAuto
namespace Go.Proofs.YtmpaocpgoihliaaGreatDoor
set_option maxRecDepth 100000
section
open Go Go.RowKit
theorem same5_out {w0 w : World} {d : Nat} {p : Nat → Nat} {m m2 : DM} (h : RD w d p m) (hbel : Ext w0 w) (hlow : ∀ i, p i ≠ 0 → w0.heap.size ≤ i) (a : Act5) (ha : a.Ok w0 w0.heap.size) (hn : a.bn ≤ 200) (hfew : m.waits.length ≤ 1000) {E : Int} (hact : m.act a.kind a.sec a.num a.bl a.kl = (E, m2)) :
 Calls Tryz.prog 60 #[.pointer (some ⟨d, 0, none⟩), .agg #[.int .u8 (a.kind : Int), .int .i64 a.sec, .int .i64 a.num, .slice a.bA a.bn a.bc, .slice a.kA a.kn a.kc]] w fun e w' => e = .returned (.int .i64 E) ∧ ROut d p w m2 w' := by
 have hk : 0 < a.kn → Off (fun i => p i ≠ 0) a.kA := fun hn q hq hf => by
  obtain ⟨g, o, e, hg, _⟩ := ha.keep.rd hn
  rw [e] at hq
  injection hq with hq
  subst hq
  have h1 := hlow _ hf
  have hg' : g < w0.heap.size := hg
  have h2 : w0.heap.size ≤ g := h1
  omega
 have hd := rsame_of h a ((ha.below hbel).more hbel.size) hk hn (by omega)
 rw [hact] at hd
 exact hd
set_option maxHeartbeats 1600000 in
theorem same6_out_no {w0 w : World} {d : Nat} {p : Nat → Nat} {m : DM} (h : RD w d p m) (hbel : Ext w0 w) (hlow : ∀ i, p i ≠ 0 → w0.heap.size ≤ i) (x : Act6) (hx : x.Ok w0 w0.heap.size) (hs : x.sl = false) (hn : x.act.bn ≤ 200) (hfew : m.waits.length ≤ 1000) :
 Calls Tryz.prog 16 #[.pointer (some ⟨d, 0, none⟩), .agg #[.bool x.sl, .int .i64 x.ta, .int .i64 x.tb, .int .i64 x.tc, .int .i64 x.td, .int .i64 x.te, .slice x.bA x.bn x.bc, .int .u8 (x.act.kind : Int), .int .i64 x.act.sec, .int .i64 x.act.num, .slice x.act.bA x.act.bn x.act.bc, .slice x.act.kA x.act.kn x.act.kc]] w fun e w' => (∃ v, e = .returned v) ∧ ROut d p w (m.act6 x) w' := by
 have hE := (Ext.refl w).alloc (box6 x)
 have hB := heap_alloc_new w (box6 x)
 obtain ⟨E, mz, hq⟩ : ∃ E mz, m.act x.act.kind x.act.sec x.act.num x.act.bl x.act.kl = (E, mz) := ⟨(m.act x.act.kind x.act.sec x.act.num x.act.bl x.act.kl).1, (m.act x.act.kind x.act.sec x.act.num x.act.bl x.act.kl).2, rfl⟩
 have hd := same5_out (h.ext hE) (hbel.trans hE) hlow x.act hx.act hn hfew hq
 have HACT : Hid (m.act6 x = mz) := Lib.hid (by unfold DM.act6; rw [if_neg (by rw [hs]; simp), hq])
 obtain ⟨c0, _, _, _, _, _, _, c7, c8, c9, c10, c11⟩ := box6_cells hB
 rw [hs] at c0 ⊢
 have hBX : box6 x = .cells #[.bool false, .int .i64 x.ta, .int .i64 x.tb, .int .i64 x.tc, .int .i64 x.td, .int .i64 x.te, .slice x.bA x.bn x.bc, .int .u8 (x.act.kind : Int), .int .i64 x.act.sec, .int .i64 x.act.num, .slice x.act.bA x.act.bn x.act.bc, .slice x.act.kA x.act.kn x.act.kc] 50 := by unfold box6; rw [hs]
 rw [hBX] at c0 c7 c8 c9 c10 c11 hd hE
 have HD := Lib.hid hd
 have HE := Lib.hid hE
 clear hq
 clear h hx hd hE hB hBX hbel hlow
 go_enter Tryz.func16, Tryz.ntmps16
 go_wp2_with fail
 refine HD.out.mono ?_
 rintro e w1 ⟨rfl, hk⟩
 have HK := Lib.hid (hk.from HE.out)
 clear hk
 go_wp2_with fail
 refine bodyPost_ret (results_none rfl _ _ _) rfl ?_
 exact ⟨⟨_, rfl⟩, by rw [HACT.out]; exact HK.out⟩
theorem same6_any {w0 w : World} {d : Nat} {p : Nat → Nat} {m : DM} (h : RD w d p m) (hbel : Ext w0 w) (hlow : ∀ i, p i ≠ 0 → w0.heap.size ≤ i) (hL : LaidT w0) (x : Act6) (hx : x.Ok w0 w0.heap.size) (hn : x.act.bn ≤ 200) (hfew : m.waits.length ≤ 1000) :
 Calls Tryz.prog 16 #[.pointer (some ⟨d, 0, none⟩), .agg #[.bool x.sl, .int .i64 x.ta, .int .i64 x.tb, .int .i64 x.tc, .int .i64 x.td, .int .i64 x.te, .slice x.bA x.bn x.bc, .int .u8 (x.act.kind : Int), .int .i64 x.act.sec, .int .i64 x.act.num, .slice x.act.bA x.act.bn x.act.bc, .slice x.act.kA x.act.kn x.act.kc]] w fun e w' => (∃ v, e = .returned v) ∧ ROut d p w (m.act6 x) w' := by
 by_cases hs : x.sl = true
 ·exact same6_yes h hbel hlow hL x hx hs hfew
 ·exact same6_out_no h hbel hlow x hx (by simpa using hs) hn hfew
section
variable {w0 w w' : World} {F : Nat → Prop} {p : Nat → Nat} {g d r : Nat} {o : Obj} {m m' m2 : DM}
end
end
section
open Go Go.RowKit
structure PairS (w0 w : World) (d g e y : Nat) (r inc : Int) (F : Nat → Prop) (p : Nat → Nat) (m : DM) (s : ShM) (m2 : DM) (s2 : ShM) : Prop where
 both : Both w0 w d e F p m m2
 sh : ShAt w g d r inc s
 rsh : RShAt w y e r inc s2
 gF : ¬ F g
 gp : p g = 0
 yF : ¬ F y
 yp : p y = 0
 ne : g ≠ y
 low : w0.heap.size ≤ g ∧ w0.heap.size ≤ y
def NB (F : Nat → Prop) (p : Nat → Nat) (g y b : Nat) : Prop := ¬ F b ∧ p b = 0 ∧ b ≠ g ∧ b ≠ y
def KpS (w w' : World) (F : Nat → Prop) (p : Nat → Nat) (g y : Nat) (F' : Nat → Prop) (p' : Nat → Nat) (g' y' : Nat) : Prop :=
 w.heap.size ≤ w'.heap.size ∧ ∀ b, b < w.heap.size → NB F p g y b → NB F' p' g' y' b ∧ w'.heap[b]? = w.heap[b]?
theorem KpS.ext {w w' : World} {F : Nat → Prop} {p : Nat → Nat} {g y : Nat} (hx : Ext w w') : KpS w w' F p g y F p g y := ⟨hx.size, fun b hb hn => ⟨hn, hx.block b hb⟩⟩
theorem KpS.row {w w' : World} {F F' : Nat → Prop} {p p' : Nat → Nat} {g y g' y' b : Nat} {o : Obj} (h : KpS w w' F p g y F' p' g' y') (hr : w.heap[b]? = some o) (hn : NB F p g y b) : w'.heap[b]? = some o ∧ NB F' p' g' y' b := by
 obtain ⟨h1, h2⟩ := h.2 b (Array.getElem?_eq_some_iff.1 hr).1 hn
 exact ⟨h2.trans hr, h1⟩
theorem by_block {w w' : World} {A : Option Addr} {n c : Nat} {l : List Nat} (h : By w A n c l) (hs : w.heap.size ≤ w'.heap.size) (hb : ∀ q, A = some q → 0 < n → w'.heap[q.block]? = w.heap[q.block]?) : By w' A n c l := by
 refine ⟨h.len, h.cap, h.most, ⟨h.rd.lt, fun h0 => ?_⟩, Bs.nil_ h⟩
 obtain ⟨g, o, hA, hlt, hc⟩ := h.rd.2 h0
 have he := hb _ hA (by rw [← h.len]; exact h0)
 exact ⟨g, o, hA, Nat.lt_of_lt_of_le hlt hs, fun j x hx => by
  rw [← hc j x hx]
  exact World.cell?_of_block he⟩
def CopS (w : World) (F : Nat → Prop) (p : Nat → Nat) (g y : Nat) (A : Option Addr) (n c : Nat) (l : List Nat) : Prop := By w A n c l ∧ ∀ q, A = some q → 0 < n → NB F p g y q.block
theorem CopS.keep {w w' : World} {F F' : Nat → Prop} {p p' : Nat → Nat} {g y g' y' n c : Nat} {A : Option Addr} {l : List Nat} (h : CopS w F p g y A n c l) (k : KpS w w' F p g y F' p' g' y') : CopS w' F' p' g' y' A n c l := by
 have hlt : ∀ q, A = some q → 0 < n → q.block < w.heap.size := fun q hq hn => by
  obtain ⟨g0, o0, hA, hl, _⟩ := h.1.rd.2 (by rw [h.1.len]; exact hn)
  rw [hq] at hA
  injection hA with hA
  rw [hA]
  exact hl
 exact ⟨by_block h.1 k.1 fun q hq hn => (k.2 q.block (hlt q hq hn) (h.2 q hq hn)).2, fun q hq hn => (k.2 q.block (hlt q hq hn) (h.2 q hq hn)).1⟩
section
variable {w0 w w' : World} {d g e y : Nat} {r inc : Int} {F : Nat → Prop} {p : Nat → Nat} {m m' m2 m3 : DM} {s s' s2 s3 : ShM}
theorem PairS.ext (h : PairS w0 w d g e y r inc F p m s m2 s2) (k : Ext w w') : PairS w0 w' d g e y r inc F p m s m2 s2 :=
 ⟨h.both.ext k, h.sh.ext k, h.rsh.ext k, h.gF, h.gp, h.yF, h.yp, h.ne, h.low⟩
theorem PairS.ins (h : PairS w0 w d g e y r inc F p m s m2 s2) (k : InsY w g d r inc F m' s' w') : ∃ F', PairS w0 w' d g e y r inc F' p m' s' m2 s2 ∧ KpS w w' F p g y F' p g y := by
 obtain ⟨F', hd, sub, hng, hm, hs⟩ := k
 have hap : ∀ i, p i ≠ 0 → ¬ (F i ∨ i = g) := fun i hi hf => hf.elim (h.both.apart i hi) fun e => hi (by rw [e]; exact h.gp)
 refine ⟨F', ⟨⟨⟨hd, fun k hk => ?_, Below.mod h.both.dk.bel hm h.both.dk.bel.size fun i hi => hi.elim (h.both.dk.low i) fun e => by rw [e]; exact h.low.1⟩, h.both.rd.mod hm hap, h.both.low, fun i hi hf => ?_⟩, hs, h.rsh.mod hm fun hf => hf.elim h.yF fun e => h.ne e.symm, hng, h.gp, fun hf => ?_, h.yp, h.ne, h.low⟩, hm.size, fun b hb hn => ⟨⟨fun hf => hn.1 (sub b hb hf), hn.2.1, hn.2.2.1, hn.2.2.2⟩, hm.block b hb fun hf => hf.elim hn.1 hn.2.2.1⟩⟩
 ·by_cases hlt : k < w.heap.size
  ·exact h.both.dk.low k (sub k hlt hk)
  ·have := h.both.dk.bel.size; omega
 ·exact h.both.apart i hi (sub i (h.both.rd.2 i hi) hf)
 ·exact h.yF (sub y h.rsh.lt hf)
theorem PairS.rins (h : PairS w0 w d g e y r inc F p m s m2 s2) (k : RIns w y e r inc p m3 s3 w') : ∃ p', PairS w0 w' d g e y r inc F p' m s m3 s3 ∧ KpS w w' F p g y F p' g y := by
 obtain ⟨p', hd, sub, hm, hs, hyp⟩ := k
 have hsz := h.both.dk.bel.size
 have hpl : ∀ i, p' i ≠ 0 → w0.heap.size ≤ i := fun i hi => (sub i hi).elim (h.both.low i) fun e => by omega
 have hlow : ∀ i, (p i ≠ 0 ∨ i = y) → w0.heap.size ≤ i := fun i hi => hi.elim (h.both.low i) fun e => by rw [e]; exact h.low.2
 refine ⟨p', ⟨⟨h.both.dk.mod hm (fun i hf hi => hi.elim (fun hp => h.both.apart i hp hf) fun e => h.yF (by rw [← e]; exact hf)) hlow, hd, hpl, fun i hi hf => ?_⟩, h.sh.mod hm fun hi => hi.elim (fun hp => hp h.gp) h.ne, hs, h.gF, part_keep sub h.gp h.sh.lt, h.yF, hyp, h.ne, h.low⟩, hm.size, fun b hb hn => ⟨⟨hn.1, part_keep sub hn.2.1 hb, hn.2.2.1, hn.2.2.2⟩, hm.block b hb fun hf => hf.elim (fun hp => hp hn.2.1) hn.2.2.2⟩⟩
 rcases sub i hi with h1 | h1
 ·exact h.both.apart i h1 hf
 ·have := h.both.dk.disk.lt i hf
  omega
theorem PairS.step (h : PairS w0 w d g e y r inc F p m s m2 s2) (k : Step d F w m' w') : ∃ F', PairS w0 w' d g e y r inc F' p m' s m2 s2 ∧ KpS w w' F p g y F' p g y :=
 ⟨grow F w w', ⟨h.both.of_step k, h.sh.mod k.2 h.gF, h.rsh.mod k.2 h.yF, grow_not h.gF h.sh.lt, h.gp, grow_not h.yF h.rsh.lt, h.yp, h.ne, h.low⟩, k.2.size, fun b hb hn => ⟨⟨grow_not hn.1 hb, hn.2.1, hn.2.2.1, hn.2.2.2⟩, k.2.block b hb hn.1⟩⟩
theorem PairS.out (h : PairS w0 w d g e y r inc F p m s m2 s2) (k : ROut e p w m3 w') : ∃ p', PairS w0 w' d g e y r inc F p' m s m3 s2 ∧ KpS w w' F p g y F p' g y := by
 obtain ⟨p', h1, h2, h3⟩ := k
 have hi : RIns w y e r inc p m3 s2 w' := ⟨p', h1, h3, h2.mono fun _ hk => .inl hk, h.rsh.mod h2 fun e => e h.yp, part_keep h3 h.yp h.rsh.lt⟩
 exact h.rins hi
theorem PairS.open_ (h : Both w0 w d e F p m m2) (k : OpnY w d g r inc F m' s' w') : ∃ F', Both w0 w' d e F' p m' m2 ∧ ShAt w' g d r inc s' ∧ (¬ F' g ∧ p g = 0 ∧ w0.heap.size ≤ g) ∧ ∀ b, b < w.heap.size → ¬ F b → ¬ F' b ∧ b ≠ g ∧ w'.heap[b]? = w.heap[b]? := by
 obtain ⟨hg, F', hd, sub, hng, hm, hs⟩ := k
 have hsz := h.dk.bel.size
 refine ⟨F', ⟨⟨hd, fun k hk => ?_, Below.mod h.dk.bel hm h.dk.bel.size h.dk.low⟩, h.rd.mod hm h.apart, h.low, fun i hi hf => h.apart i hi (sub i (h.rd.2 i hi) hf)⟩, hs, ⟨hng, part_none h.rd hg, by omega⟩, fun b hb hn => ⟨fun hf => hn (sub b hb hf), by omega, hm.block b hb hn⟩⟩
 by_cases hlt : k < w.heap.size
 ·exact h.dk.low k (sub k hlt hk)
 ·omega
theorem PairS.ropen (h : Both w0 w d e F p m m2) (hs : ShAt w g d r inc s) (hg : ¬ F g ∧ p g = 0 ∧ w0.heap.size ≤ g) (k : ROpn w e y r inc p m3 s3 w') : ∃ p', PairS w0 w' d g e y r inc F p' m s m3 s3 ∧ ∀ b, b < w.heap.size → p b = 0 → p' b = 0 ∧ b ≠ y ∧ w'.heap[b]? = w.heap[b]? := by
 obtain ⟨hy, p', hd, sub, hm, hsh, hyp⟩ := k
 have hsz := h.dk.bel.size
 have hlt := hs.lt
 refine ⟨p', ⟨⟨h.dk.mod hm (fun i hf hp => h.apart i hp hf) h.low, hd, fun i hi => (sub i hi).elim (h.low i) fun e => by omega, fun i hi hf => ?_⟩, hs.mod hm fun hp => hp hg.2.1, hsh, hg.1, part_keep sub hg.2.1 hlt, fun hf => by have := h.dk.disk.lt y hf; omega, hyp, by omega, hg.2.2, by omega⟩, fun b hb hn => ⟨part_keep sub hn hb, by omega, hm.block b hb fun hp => hp hn⟩⟩
 rcases sub i hi with h1 | h1
 ·exact h.apart i h1 hf
 ·have := h.dk.disk.lt i hf
  omega
end
end
section
open Go Go.RowKit
def DM.insY (m : DM) (r inc : Int) (s : ShM) (i : Int) (bs : List Nat) : Int × DM × ShM :=
 if (s.ix : Int) < i ∧ i ≤ 1099511627752 then
  (if 640 < bs.length then (3, m, s)
   else ((m.putY r inc (nextY s i.toNat (chunkN bs.length)) (splitL bs)).1, (m.putY r inc (nextY s i.toNat (chunkN bs.length)) (splitL bs)).2, if (m.putY r inc (nextY s i.toNat (chunkN bs.length)) (splitL bs)).1 = 0 then nextY s i.toNat (chunkN bs.length) else s))
 else (2, m, s)
theorem insY_ok {m : DM} {r inc : Int} {s : ShM} {i : Int} {bs : List Nat} (hs : s = {} ∨ manOk s = true) : (m.insY r inc s i bs).2.2 = {} ∨ manOk (m.insY r inc s i bs).2.2 = true := by
 unfold DM.insY
 by_cases h1 : (s.ix : Int) < i ∧ i ≤ 1099511627752
 ·rw [if_pos h1]
  by_cases h2 : 640 < bs.length
  ·rw [if_pos h2]; exact hs
  ·rw [if_neg h2]
   dsimp only
   split
   ·exact .inr (nextY_ok hs (by omega) (by omega))
   ·exact hs
 ·rw [if_neg h1]; exact hs
theorem six_le {s : ShM} (hs : s = {} ∨ manOk s = true) : s.ix ≤ 1099511627776 ∧ s.ct ≤ 8 ∧ s.ar ≤ 1 := by
 rcases hs with rfl | hs
 ·exact ⟨Nat.zero_le _, Nat.zero_le _, Nat.zero_le _⟩
 ·have := manOk_iff.1 hs; omega
section
variable {w0 w w' : World} {d g e y : Nat} {r inc : Int} {F : Nat → Prop} {p : Nat → Nat} {m m2 : DM} {s s2 : ShM}
theorem pair_install (h : PairS w0 w d g e y r inc F p m s m2 s2) (hL : LaidY w0) (hs : s = {} ∨ manOk s = true) (hr : 0 ≤ r ∧ r ≤ 6) (hc : 1 ≤ inc ∧ inc ≤ 1099511627776) (hsz : m.size = 156) (i : Int) (A : Option Addr) (n c : Nat) (bs : List Nat) (hb : By w A n c bs) (hfew : m.waits.length ≤ 900000) :
 Calls Tryz.prog 26 #[.pointer (some ⟨g, 0, none⟩), .int .i64 i, .slice A n c] w fun z w' => z = .returned (.int .i64 (m.insY r inc s i bs).1) ∧ InsY w g d r inc F (m.insY r inc s i bs).2.1 (m.insY r inc s i bs).2.2 w' := by
 have hix := (six_le hs).1
 have hLM : ∀ V, Mod F w V → LaidY V := fun V hV => hL.ext (Below.mod h.both.dk.bel hV h.both.dk.bel.size h.both.dk.low)
 have stay : ∀ w', Ext w w' → InsY w g d r inc F m s w' := fun w' hx => (WY.start h.both.dk.disk |>.ext hx).ins h.sh h.gF
 unfold DM.insY
 by_cases h1 : (s.ix : Int) < i ∧ i ≤ 1099511627752
 ·rw [if_pos h1]
  by_cases h2 : 640 < bs.length
  ·rw [if_pos h2]
   refine (yinstall_long h.sh hix i h1 A n c (by rw [← hb.len]; exact h2)).mono ?_
   rintro z w' ⟨rfl, hx⟩
   exact ⟨rfl, stay _ hx⟩
  ·rw [if_neg h2]
   obtain ⟨j, rfl⟩ : ∃ j : Nat, i = (j : Int) := ⟨i.toNat, by omega⟩
   rw [Int.toNat_natCast]
   exact yinstall_yes h.sh h.both.dk.disk h.gF hLM hs hr hc hsz j (by omega) A n c bs hb (by rw [← hb.len]; omega) hfew
 ·rw [if_neg h1]
  refine (yinstall_arg h.sh hix i h1 A n c).mono ?_
  rintro z w' ⟨rfl, rfl⟩
  exact ⟨rfl, stay _ (Ext.refl _)⟩
theorem pair_rinstall (h : PairS w0 w d g e y r inc F p m s m2 s2) (hs : s2 = {} ∨ manOk s2 = true) (hr : 0 ≤ r ∧ r ≤ 6) (hc : 1 ≤ inc ∧ inc ≤ 1099511627776) (hsz : m2.size = 156) (i : Int) (A : Option Addr) (n c : Nat) (bs : List Nat) (hb : By w A n c bs) (hfew : m2.waits.length ≤ 900000) :
 Calls Tryz.prog 27 #[.pointer (some ⟨y, 0, none⟩), .int .i64 i, .slice A n c] w fun z w' => z = .returned (.int .i64 (m2.insY r inc s2 i bs).1) ∧ RIns w y e r inc p (m2.insY r inc s2 i bs).2.1 (m2.insY r inc s2 i bs).2.2 w' := by
 have stay : RIns w y e r inc p m2 s2 w := (RQ.start h.both.rd).ins h.rsh h.yp
 unfold DM.insY
 by_cases h1 : (s2.ix : Int) < i ∧ i ≤ 1099511627752
 ·rw [if_pos h1]
  by_cases h2 : 640 < bs.length
  ·rw [if_pos h2]
   refine (rsinstall_long h.rsh i h1 A n c (by rw [← hb.len]; exact h2)).mono ?_
   rintro z w' ⟨rfl, rfl⟩
   exact ⟨rfl, stay⟩
  ·rw [if_neg h2]
   obtain ⟨j, rfl⟩ : ∃ j : Nat, i = (j : Int) := ⟨i.toNat, by omega⟩
   rw [Int.toNat_natCast]
   cases hup : m2.up with
   | false => exact rsinstall_down hup h.rsh h.both.rd h.yp hs hr hc hsz j (by omega) A n c bs hb (by rw [← hb.len]; omega) hfew
   | true =>
    by_cases hz : s2.ix = 0
    ·exact rsinstall_up0 hup hz h.rsh h.both.rd h.yp hs hr hc hsz j (by omega) A n c bs hb (by rw [← hb.len]; omega) hfew
    ·exact rsinstall_up1 hup hz h.rsh h.both.rd h.yp hs hr hc hsz j (by omega) A n c bs hb (by rw [← hb.len]; omega) hfew
 ·rw [if_neg h1]
  refine (rsinstall_arg h.rsh i h1 A n c).mono ?_
  rintro z w' ⟨rfl, rfl⟩
  exact ⟨rfl, stay⟩
end
def okO (r c : Int) : Bool := decide ((0 ≤ r ∧ r ≤ 6) ∧ (1 ≤ c ∧ c ≤ 1099511627776))
def DM.opnE (m : DM) (r c : Int) : Int := if okO r c = false then 2 else if ldE3 (m.loadV r 2) (m.loadB r 2) (m.loadE r 2) ≠ 0 then ldE3 (m.loadV r 2) (m.loadB r 2) (m.loadE r 2) else (m.heal r 2).1
def DM.opnM (m : DM) (r c : Int) : DM := if okO r c = false then m else if ldE3 (m.loadV r 2) (m.loadB r 2) (m.loadE r 2) ≠ 0 then m else (m.heal r 2).2
def DM.opnS (m : DM) (r : Int) : ShM := ldS3 (m.loadV r 2) (m.loadB r 2) (m.loadE r 2)
theorem opnS_ok {m : DM} {r c : Int} (h : m.opnE r c = 0) : m.opnS r = {} ∨ manOk (m.opnS r) = true := by
 unfold DM.opnE at h
 split at h
 ·cases h
 ·split at h
  ·rename_i h2; exact absurd h h2
  ·rename_i h1 h2
   have h2 : ldE3 (m.loadV r 2) (m.loadB r 2) (m.loadE r 2) = 0 := by simpa using h2
   unfold ldE3 at h2
   unfold DM.opnS ldS3
   by_cases h3 : m.loadE r 2 ≠ 0
   ·rw [if_pos h3]; exact .inl rfl
   ·rw [if_neg h3] at h2 ⊢
    by_cases h4 : m.loadV r 2 = 0
    ·rw [if_pos h4]; exact .inl rfl
    ·rw [if_neg h4] at h2 ⊢
     exact .inr (manS_ok h2)
theorem opn_ok {m : DM} {r c : Int} (h : m.opnE r c = 0) : (0 ≤ r ∧ r ≤ 6) ∧ (1 ≤ c ∧ c ≤ 1099511627776) := by
 unfold DM.opnE at h
 split at h
 ·cases h
 ·rename_i h1
  have h1 : okO r c = true := by simpa using h1
  exact of_decide_eq_true h1
section
variable {w0 w : World} {d e : Nat} {F : Nat → Prop} {p : Nat → Nat} {m m2 : DM}
theorem any_open (h : Both w0 w d e F p m m2) (hL : LaidY w0) (hsz : m.size = 156) (hfew : m.waits.length ≤ 900000) (r c : Int) :
 Calls Tryz.prog 23 #[.pointer (some ⟨d, 0, none⟩), .int .i64 r, .int .i64 c] w fun z w' =>
  (m.opnE r c ≠ 0 ∧ z = .returned (.tuple #[.pointer none, .int .i64 (m.opnE r c)]) ∧ ∃ F', WY w d F F' w' (m.opnM r c)) ∨
  (m.opnE r c = 0 ∧ ∃ g, z = .returned (.tuple #[.pointer (some ⟨g, 0, none⟩), .int .i64 0]) ∧ OpnY w d g r c F (m.opnM r c) (m.opnS r) w') := by
 have hLw := hL.ext h.dk.bel
 have hS := size_pd h.dk.disk
 rw [hsz] at hS
 have stay : ∀ w', Ext w w' → ∃ F', WY w d F F' w' m := fun w' hx => ⟨F, WY.start h.dk.disk |>.ext hx⟩
 cases hok : okO r c with
 | false =>
  have he : m.opnE r c = 2 ∧ m.opnM r c = m := ⟨by unfold DM.opnE; rw [if_pos hok], by unfold DM.opnM; rw [if_pos hok]⟩
  rw [he.1, he.2]
  by_cases hc : 1 ≤ c ∧ c ≤ 1099511627776
  ·have hr : ¬ (0 ≤ r ∧ r ≤ 6) := fun hr => by unfold okO at hok; rw [decide_eq_true ⟨hr, hc⟩] at hok; cases hok
   have hk : knownC 156 r 2 = 2 := by
    unfold knownC
    rw [if_neg (by omega), if_pos (by omega)]
   have hsz2 : ∀ W, Ext w W → Sized W (some ⟨d, 0, none⟩) 156 := fun W hW => by
    have := Sized.of (h.dk.disk.ext hW)
    rw [hsz] at this
    exact this
   have hl := LoadsY.no (w := w) (p := some ⟨d, 0, none⟩) (sz := 156) hsz2 hLw r (by rw [hk]; decide)
   rw [hk] at hl
   refine (yopen_bad (V := 0) (B := []) (E := 2) c 156 w (by decide) (inI_iff.2 hc) hS hl hLw (by simp) (by decide)).mono ?_
   rintro z w' ⟨rfl, hx⟩
   exact .inl ⟨by decide, rfl, stay _ hx⟩
  ·refine (yopen_inc r c 156 w (by decide) (by cases hq : inI 1 c 1099511627776 with | false => rfl | true => exact absurd (inI_iff.1 hq) hc) hS).mono ?_
   rintro z w' ⟨rfl, hx⟩
   exact .inl ⟨by decide, rfl, stay _ hx⟩
 | true =>
  obtain ⟨hr, hc⟩ := of_decide_eq_true hok
  have hk := knownY hr hsz
  have hok' : ¬ okO r c = false := by rw [hok]; decide
  by_cases hE : ldE3 (m.loadV r 2) (m.loadB r 2) (m.loadE r 2) ≠ 0
  ·have he : m.opnE r c = ldE3 (m.loadV r 2) (m.loadB r 2) (m.loadE r 2) ∧ m.opnM r c = m := ⟨by unfold DM.opnE; rw [if_neg hok', if_pos hE], by unfold DM.opnM; rw [if_neg hok', if_pos hE]⟩
   rw [he.1, he.2]
   refine (yopen_bad c 156 w (by decide) (inI_iff.2 hc) hS (LoadsY.of h.dk.disk hLw r hk (by omega)) hLw (loadB_lenY h.dk.disk.ok r 2) hE).mono ?_
   rintro z w' ⟨rfl, hx⟩
   exact .inl ⟨hE, rfl, stay _ hx⟩
  ·have he : m.opnE r c = (m.heal r 2).1 ∧ m.opnM r c = (m.heal r 2).2 := ⟨by unfold DM.opnE; rw [if_neg hok', if_neg hE], by unfold DM.opnM; rw [if_neg hok', if_neg hE]⟩
   rw [he.1, he.2]
   have hE0 : ldE3 (m.loadV r 2) (m.loadB r 2) (m.loadE r 2) = 0 := by simpa using hE
   by_cases hh : (m.heal r 2).1 = 0
   ·refine (yopen_yes h.dk.disk hLw r c (by rw [hsz]; decide) (inI_iff.2 hc) hk (by omega) hE0 hh).mono ?_
    rintro z w' ⟨g, rfl, ho⟩
    exact .inr ⟨hh, g, rfl, ho⟩
   ·refine (yopen_heal h.dk.disk hLw r c (by rw [hsz]; decide) (inI_iff.2 hc) hk (by omega) hE0 hh).mono ?_
    rintro z w' ⟨rfl, ho⟩
    exact .inl ⟨hh, rfl, ho⟩
theorem any_ropen (h : RD w e p m) (hsz : m.size = 156) (hfew : m.waits.length ≤ 900000) (r c : Int) :
 Calls Tryz.prog 24 #[.pointer (some ⟨e, 0, none⟩), .int .i64 r, .int .i64 c] w fun z w' =>
  (m.opnE r c ≠ 0 ∧ z = .returned (.tuple #[.pointer none, .int .i64 (m.opnE r c)]) ∧ ROut e p w (m.opnM r c) w') ∨
  (m.opnE r c = 0 ∧ ∃ y, z = .returned (.tuple #[.pointer (some ⟨y, 0, none⟩), .int .i64 0]) ∧ ROpn w e y r c p (m.opnM r c) (m.opnS r) w') := by
 have stay : ∀ w', Ext w w' → ROut e p w m w' := fun w' hx => ((RQ.start h).ext hx).rout
 cases hok : okO r c with
 | false =>
  have he : m.opnE r c = 2 ∧ m.opnM r c = m := ⟨by unfold DM.opnE; rw [if_pos hok], by unfold DM.opnM; rw [if_pos hok]⟩
  rw [he.1, he.2]
  refine (rsopen_arg h hsz r c (fun hh => by unfold okO at hok; rw [decide_eq_true hh] at hok; cases hok)).mono ?_
  rintro z w' ⟨rfl, rfl⟩
  exact .inl ⟨by decide, rfl, stay _ (Ext.refl _)⟩
 | true =>
  obtain ⟨hr, hc⟩ := of_decide_eq_true hok
  have hok' : ¬ okO r c = false := by rw [hok]; decide
  by_cases h1 : m.loadE r 2 = 0
  case neg =>
   have hE : ldE3 (m.loadV r 2) (m.loadB r 2) (m.loadE r 2) = m.loadE r 2 := by unfold ldE3; rw [if_pos h1]
   have he : m.opnE r c = m.loadE r 2 ∧ m.opnM r c = m := ⟨by unfold DM.opnE; rw [if_neg hok', hE, if_pos h1], by unfold DM.opnM; rw [if_neg hok', hE, if_pos h1]⟩
   rw [he.1, he.2]
   refine (rsopen_err h hsz r c hr hc (by omega) h1).mono ?_
   rintro z w' ⟨rfl, hx⟩
   exact .inl ⟨h1, rfl, stay _ hx⟩
  have h1' : ¬ m.loadE r 2 ≠ 0 := fun hh => hh h1
  by_cases h2 : m.loadV r 2 = 0
  ·have hE : ldE3 (m.loadV r 2) (m.loadB r 2) (m.loadE r 2) = 0 := by unfold ldE3; rw [if_neg h1', if_pos h2]
   have hE' : ¬ ldE3 (m.loadV r 2) (m.loadB r 2) (m.loadE r 2) ≠ 0 := fun hh => hh hE
   have hS : m.opnS r = {} := by unfold DM.opnS ldS3; rw [if_neg h1', if_pos h2]
   have he : m.opnE r c = (m.heal r 2).1 ∧ m.opnM r c = (m.heal r 2).2 := ⟨by unfold DM.opnE; rw [if_neg hok', if_neg hE'], by unfold DM.opnM; rw [if_neg hok', if_neg hE']⟩
   rw [he.1, he.2, hS]
   exact rsopen_none h hsz r c hr hc (by omega) h1 h2
  ·have hEq : ldE3 (m.loadV r 2) (m.loadB r 2) (m.loadE r 2) = manE (m.loadB r 2) := by unfold ldE3; rw [if_neg h1', if_neg h2]
   have hSq : m.opnS r = manS (m.loadB r 2) := by unfold DM.opnS ldS3; rw [if_neg h1', if_neg h2]
   by_cases h3 : (m.loadB r 2).length = 8
   ·refine (rsopen_man h hsz r c hr hc (by omega) h1 h2 h3).mono ?_
    have hmb : ∀ b, manOk (manR (m.loadB r 2)) = b → manB (m.loadB r 2) = b := fun b hb => by unfold manB; rw [decide_eq_true h3, hb, Bool.true_and]
    rintro z w' (⟨hm, rfl, hx⟩ | ⟨hm, hh, rfl, ho⟩ | ⟨hm, hh, yy, rfl, ho⟩)
    ·have hE : ldE3 (m.loadV r 2) (m.loadB r 2) (m.loadE r 2) = 130 := by rw [hEq]; unfold manE; rw [if_neg (by rw [hmb _ hm]; decide)]
     have he : m.opnE r c = 130 ∧ m.opnM r c = m := ⟨by unfold DM.opnE; rw [if_neg hok', hE, if_pos (by decide)], by unfold DM.opnM; rw [if_neg hok', hE, if_pos (by decide)]⟩
     rw [he.1, he.2]
     exact .inl ⟨by decide, rfl, stay _ hx⟩
    ·have hE : ¬ ldE3 (m.loadV r 2) (m.loadB r 2) (m.loadE r 2) ≠ 0 := fun hn => hn (by rw [hEq]; unfold manE; rw [if_pos (hmb _ hm)])
     have he : m.opnE r c = (m.heal r 2).1 ∧ m.opnM r c = (m.heal r 2).2 := ⟨by unfold DM.opnE; rw [if_neg hok', if_neg hE], by unfold DM.opnM; rw [if_neg hok', if_neg hE]⟩
     rw [he.1, he.2]
     exact .inl ⟨hh, rfl, ho⟩
    ·have hE : ¬ ldE3 (m.loadV r 2) (m.loadB r 2) (m.loadE r 2) ≠ 0 := fun hn => hn (by rw [hEq]; unfold manE; rw [if_pos (hmb _ hm)])
     have he : m.opnE r c = (m.heal r 2).1 ∧ m.opnM r c = (m.heal r 2).2 := ⟨by unfold DM.opnE; rw [if_neg hok', if_neg hE], by unfold DM.opnM; rw [if_neg hok', if_neg hE]⟩
     have hS : m.opnS r = manR (m.loadB r 2) := by rw [hSq]; unfold manS; rw [if_pos (hmb _ hm)]
     rw [he.1, he.2, hS]
     exact .inr ⟨hh, yy, rfl, ho⟩
   ·have hE : ldE3 (m.loadV r 2) (m.loadB r 2) (m.loadE r 2) = 130 := by
     rw [hEq]
     unfold manE manB
     rw [decide_eq_false h3, Bool.false_and, if_neg (by decide)]
    have he : m.opnE r c = 130 ∧ m.opnM r c = m := ⟨by unfold DM.opnE; rw [if_neg hok', hE, if_pos (by decide)], by unfold DM.opnM; rw [if_neg hok', hE, if_pos (by decide)]⟩
    rw [he.1, he.2]
    refine (rsopen_len h hsz r c hr hc (by omega) h1 h2 h3).mono ?_
    rintro z w' ⟨rfl, hx⟩
    exact .inl ⟨by decide, rfl, stay _ hx⟩
end
end
section
theorem putC_sizeS (m : DM) (s : Int) (L : List Nat) : (m.putC s L).2.size = m.size := by
 have hw : (m.write s L).2.size = m.size := by unfold DM.write DM.size; (repeat' split) <;> rfl
 unfold DM.putC
 split
 ·exact hw
 ·rw [← hw]
  generalize (m.write s L).2 = m1
  exact flush_size m1
theorem puts2_moreS (m : DM) (r g p : Int) (i c : Nat) (b : List Nat) : (m.puts2 r g p i c b).2.waits.length ≤ m.waits.length + 2 ∧ (m.puts2 r g p i c b).2.size = m.size := by
 unfold DM.puts2
 have h1 := rputC_waits m (firstS g p) (sealC r g p i c b)
 have s1 := putC_sizeS m (firstS g p) (sealC r g p i c b)
 split
 ·exact ⟨by omega, s1⟩
 ·have h2 := rputC_waits (m.putC (firstS g p) (sealC r g p i c b)).2 (firstS g (otherP p)) (sealC r g (otherP p) i c b)
  have s2 := putC_sizeS (m.putC (firstS g p) (sealC r g p i c b)).2 (firstS g (otherP p)) (sealC r g (otherP p) i c b)
  exact ⟨by omega, s2.trans s1⟩
theorem store_moreS (m : DM) (r g c : Int) (b : List Nat) : (m.store r g c b).2.waits.length ≤ m.waits.length + 2 ∧ (m.store r g c b).2.size = m.size := by
 unfold DM.store
 split
 ·exact ⟨Nat.le_add_right _ _, rfl⟩
 ·exact puts2_moreS _ _ _ _ _ _ _
theorem heal_moreS (m : DM) (r g : Int) : (m.heal r g).2.waits.length ≤ m.waits.length + 2 ∧ (m.heal r g).2.size = m.size := by
 unfold DM.heal
 (repeat' split)
 ·exact ⟨Nat.le_add_right _ _, rfl⟩
 ·exact ⟨Nat.le_add_right _ _, rfl⟩
 ·exact ⟨by have := rputC_waits m (firstS g (otherP (atC r g (m.cb g 0) (m.cb g 1)))) (sealC r g (otherP (atC r g (m.cb g 0) (m.cb g 1))) (cellF r g (m.cb g 0) (m.cb g 1) 3) (cellF r g (m.cb g 0) (m.cb g 1) 4) (cellB r g (m.cb g 0) (m.cb g 1))); omega, putC_sizeS _ _ _⟩
theorem putY_more (m : DM) (r inc : Int) (s : ShM) (l : List (List Nat)) (hl : l.length ≤ 8) : (m.putY r inc s l).2.waits.length ≤ m.waits.length + 18 ∧ (m.putY r inc s l).2.size = m.size := by
 have h1 := wrY_waits m r inc s 0 l
 have h2 := wrY_size m r inc s 0 l
 unfold DM.putY
 split
 ·exact ⟨by omega, h2⟩
 ·have h3 := store_moreS (m.wrY r inc s 0 l).2 r 2 inc (manL s)
  exact ⟨by omega, h3.2.trans h2⟩
theorem insY_more (m : DM) (r inc : Int) (s : ShM) (i : Int) (bs : List Nat) : (m.insY r inc s i bs).2.1.waits.length ≤ m.waits.length + 18 ∧ (m.insY r inc s i bs).2.1.size = m.size := by
 unfold DM.insY
 split
 ·split
  ·exact ⟨Nat.le_add_right _ _, rfl⟩
  ·exact putY_more m r inc _ _ (by rw [splitL_len]; have := chunkN_in (n := bs.length) (by omega); omega)
 ·exact ⟨Nat.le_add_right _ _, rfl⟩
theorem mendY_more (m : DM) (r inc : Int) (s : ShM) (k : Int) (c : List Nat) : (m.mendY r inc s k c).2.waits.length ≤ m.waits.length + 18 ∧ (m.mendY r inc s k c).2.size = m.size := by
 unfold DM.mendY
 split
 ·have h1 := wrY_waits m r inc s k.toNat [c]
  simp only [List.length_cons, List.length_nil] at h1
  exact ⟨by omega, wrY_size m r inc s k.toNat [c]⟩
 ·exact ⟨Nat.le_add_right _ _, rfl⟩
theorem opnM_more (m : DM) (r c : Int) : (m.opnM r c).waits.length ≤ m.waits.length + 18 ∧ (m.opnM r c).size = m.size := by
 unfold DM.opnM
 split
 ·exact ⟨Nat.le_add_right _ _, rfl⟩
 ·split
  ·exact ⟨Nat.le_add_right _ _, rfl⟩
  ·have := heal_moreS m r 2
   exact ⟨by omega, this.2⟩
end
section
open Go Go.RowKit
theorem acts6_one (w : World) (a : Act6) (h : a.Ok w w.heap.size) : Acts6 (w.alloc (.cells #[.bool a.sl, .int .i64 a.ta, .int .i64 a.tb, .int .i64 a.tc, .int .i64 a.td, .int .i64 a.te, .slice a.bA a.bn a.bc, .int .u8 (a.act.kind : Int), .int .i64 a.act.sec, .int .i64 a.act.num, .slice a.act.bA a.act.bn a.act.bc, .slice a.act.kA a.act.kn a.act.kc] 50)) (w.alloc (.cells #[.bool a.sl, .int .i64 a.ta, .int .i64 a.tb, .int .i64 a.tc, .int .i64 a.td, .int .i64 a.te, .slice a.bA a.bn a.bc, .int .u8 (a.act.kind : Int), .int .i64 a.act.sec, .int .i64 a.act.num, .slice a.act.bA a.act.bn a.act.bc, .slice a.act.kA a.act.kn a.act.kc] 50)).heap.size (some ⟨w.heap.size, 0, none⟩) 1 1 [a] := by
 refine ⟨rfl, Nat.le_refl _, by omega, fun b hb => ?_, fun _ => ⟨w.heap.size, 0, rfl, by simp, fun j b hb k v hv => ?_⟩, fun h => by cases h⟩
 ·obtain rfl := List.mem_singleton.1 hb
  exact (h.below ((Ext.refl w).alloc _)).more ((Ext.refl w).alloc _).size
 ·match j, hb with
  | 0, hb =>
   injection hb with hb
   subst hb
   rw [World.cell?_alloc_new]
   rw [show 0 + (0 * 12 + k) = k by omega]
   exact (List.getElem?_toArray ..).trans hv
end
section
open Go Go.RowKit
def GreatSE (n : Nat) (l : List Act7) (w : World) (e : Ending) (w' : World) : Prop := ∃ b : Bool, e = .returned (.bool b) ∧ Ext w w' ∧ (b = false → n ≤ 25 ∧ ∀ a ∈ l, a.bn ≤ 700 ∧ a.o.bn ≤ 100 ∧ a.o.act.bn ≤ 200 ∧ a.o.act.kn ≤ 100)
set_option maxHeartbeats 1600000 in
theorem greatS_of {w : World} (A : Option Addr) (n c : Nat) (l : List Act7) (h : Ls Act7.cells 15 w w.heap.size A n c l) (ho : ∀ a ∈ l, a.Ok w w.heap.size) :
 Calls Tryz.prog 22 #[.slice A n c] w (GreatSE n l w) := by
 have HA := Lib.hid h
 have HO := Lib.hid ho
 have hcap := h.cap
 have hmost := h.most
 have hn := Nat.zero_le n
 clear h ho
 go_enter Tryz.func22, Tryz.ntmps22
 by_cases hn25 : 25 < n
 ·go_wp2_with fail
  go_ret
  exact ⟨true, rfl, Ext.refl _, fun h => by cases h⟩
 go_wp2_with fail
 go_loopw [3] (fun i wr => ∃ k : Nat, k ≤ n ∧ i = .int .i64 k ∧ Hid (Ext w wr) ∧ Hid (∀ a ∈ l.take k, a.bn ≤ 700 ∧ a.o.bn ≤ 100 ∧ a.o.act.bn ≤ 200 ∧ a.o.act.kn ≤ 100)) (fun i _ => n - (intOf i).toNat)
 case atStart => exact ⟨0, Nat.zero_le _, rfl, Lib.hid (Ext.refl _), Lib.hid fun a ha => by simp at ha⟩
 case round =>
  obtain ⟨k, hkn, rfl, HX, HT⟩ := hrel
  by_cases hlt : k < n
  ·obtain ⟨g, o, a, rfl, hg, ha, hc⟩ := HA.out.at_ hlt
   have HAL := Lib.hid ha
   have HOK := Lib.hid (((HO.out a (List.mem_of_getElem? ha)).o.below HX.out).more HX.out.size)
   have c0 : wr.cell? ⟨g, o + k * 15, none⟩ = some (.int .u8 (a.k : Int)) := (Below.cell HX.out (p := ⟨g, o + k * 15, none⟩) hg).trans (hc 0 _ rfl)
   have c1 : wr.cell? ⟨g, o + k * 15 + 1, none⟩ = some (.int .i64 a.num) := (Below.cell HX.out (p := ⟨g, o + k * 15 + 1, none⟩) hg).trans (hc 1 _ rfl)
   have c2 : wr.cell? ⟨g, o + k * 15 + 2, none⟩ = some (.slice a.bA a.bn a.bc) := (Below.cell HX.out (p := ⟨g, o + k * 15 + 2, none⟩) hg).trans (hc 2 _ rfl)
   have c3 : wr.cell? ⟨g, o + k * 15 + 3, none⟩ = some (.bool a.o.sl) := (Below.cell HX.out (p := ⟨g, o + k * 15 + 3, none⟩) hg).trans (hc 3 _ rfl)
   have c4 : wr.cell? ⟨g, o + k * 15 + 4, none⟩ = some (.int .i64 a.o.ta) := (Below.cell HX.out (p := ⟨g, o + k * 15 + 4, none⟩) hg).trans (hc 4 _ rfl)
   have c5 : wr.cell? ⟨g, o + k * 15 + 5, none⟩ = some (.int .i64 a.o.tb) := (Below.cell HX.out (p := ⟨g, o + k * 15 + 5, none⟩) hg).trans (hc 5 _ rfl)
   have c6 : wr.cell? ⟨g, o + k * 15 + 6, none⟩ = some (.int .i64 a.o.tc) := (Below.cell HX.out (p := ⟨g, o + k * 15 + 6, none⟩) hg).trans (hc 6 _ rfl)
   have c7 : wr.cell? ⟨g, o + k * 15 + 7, none⟩ = some (.int .i64 a.o.td) := (Below.cell HX.out (p := ⟨g, o + k * 15 + 7, none⟩) hg).trans (hc 7 _ rfl)
   have c8 : wr.cell? ⟨g, o + k * 15 + 8, none⟩ = some (.int .i64 a.o.te) := (Below.cell HX.out (p := ⟨g, o + k * 15 + 8, none⟩) hg).trans (hc 8 _ rfl)
   have c9 : wr.cell? ⟨g, o + k * 15 + 9, none⟩ = some (.slice a.o.bA a.o.bn a.o.bc) := (Below.cell HX.out (p := ⟨g, o + k * 15 + 9, none⟩) hg).trans (hc 9 _ rfl)
   have c10 : wr.cell? ⟨g, o + k * 15 + 10, none⟩ = some (.int .u8 (a.o.act.kind : Int)) := (Below.cell HX.out (p := ⟨g, o + k * 15 + 10, none⟩) hg).trans (hc 10 _ rfl)
   have c11 : wr.cell? ⟨g, o + k * 15 + 11, none⟩ = some (.int .i64 a.o.act.sec) := (Below.cell HX.out (p := ⟨g, o + k * 15 + 11, none⟩) hg).trans (hc 11 _ rfl)
   have c12 : wr.cell? ⟨g, o + k * 15 + 12, none⟩ = some (.int .i64 a.o.act.num) := (Below.cell HX.out (p := ⟨g, o + k * 15 + 12, none⟩) hg).trans (hc 12 _ rfl)
   have c13 : wr.cell? ⟨g, o + k * 15 + 13, none⟩ = some (.slice a.o.act.bA a.o.act.bn a.o.act.bc) := (Below.cell HX.out (p := ⟨g, o + k * 15 + 13, none⟩) hg).trans (hc 13 _ rfl)
   have c14 : wr.cell? ⟨g, o + k * 15 + 14, none⟩ = some (.slice a.o.act.kA a.o.act.kn a.o.act.kc) := (Below.cell HX.out (p := ⟨g, o + k * 15 + 14, none⟩) hg).trans (hc 14 _ rfl)
   clear hc ha
   by_cases hb : 700 < a.bn
   ·go_wp2_with fail
    go_ret
    exact ⟨true, rfl, HX.out, fun h => by cases h⟩
   ·go_wp2_with fail
    refine (great6_of (Nat.le_refl _) _ 1 1 [a.o] (acts6_one wr a.o HOK.out)).mono ?_
    rintro e w2 ⟨b, rfl, hx, hgr⟩
    have HX2 := Lib.hid ((HX.out.alloc (.cells #[.bool a.o.sl, .int .i64 a.o.ta, .int .i64 a.o.tb, .int .i64 a.o.tc, .int .i64 a.o.td, .int .i64 a.o.te, .slice a.o.bA a.o.bn a.o.bc, .int .u8 (a.o.act.kind : Int), .int .i64 a.o.act.sec, .int .i64 a.o.act.num, .slice a.o.act.bA a.o.act.bn a.o.act.bc, .slice a.o.act.kA a.o.act.kn a.o.act.kc] 50)).trans hx)
    have HGR := Lib.hid hgr
    clear hgr hx c0 c1 c2 c3 c4 c5 c6 c7 c8 c9 c10 c11 c12 c13 c14
    cases b with
    | true =>
     go_wp2_with fail
     go_ret
     exact ⟨true, rfl, HX2.out, fun h => by cases h⟩
    | false =>
     go_wp2_with fail
     go_roundw
     case rel => exact ⟨k + 1, by omega, by go_num, HX2, Lib.hid fun b hb' => by
      rw [List.take_add_one, HAL.out] at hb'
      rcases List.mem_append.1 hb' with h | h
      ·exact HT.out b h
      ·simp only [Option.toList_some, List.mem_singleton] at h
       subst h
       have := (HGR.out (by trivial)).2 b.o (List.mem_singleton.2 rfl)
       exact ⟨by omega, this⟩⟩
     case measure => simp [intOf]; omega
  ·go_wp2_with fail
   go_ret
   refine ⟨false, rfl, HX.out, fun _ => ⟨by omega, fun a ha => HT.out a ?_⟩⟩
   rw [List.take_of_length_le (by have := HA.out.len; omega)]
   exact ha
end
section
open Go Go.RowKit Go.Shelf
attribute [local go_sem] Oper.semAt_some
end
section
open Go Go.RowKit Go.Shelf
attribute [local go_sem] Oper.semAt_some
end
section
open Go Go.RowKit Go.Shelf
attribute [local go_sem] Oper.semAt_some
end
section
open Go Go.RowKit
section
variable {w : World} {d : Nat} {F : Nat → Prop} {m : DM}
end
end
section
open Go Go.RowKit
section
variable {w0 w w' : World} {d : Nat} {F : Nat → Prop} {g s : Nat} {r inc : Int} {m m' : DM}
end
end
section
open Go Go.RowKit
section
variable {w0 w : World} {d : Nat} {F : Nat → Prop} {g s : Nat} {r inc : Int} {m : DM}
end
end
section
open Go Go.RowKit Go.ChangeShapes Go.WideShapes Go.Deep
section
variable {H : Type} {enc : TypeId × Value → H} {P : Program} {w : World} {base : Nat} {spare : Nat → Bool} {held : Bool}
end
end
section
open Go Go.RowKit Go.ChangeShapes Go.WideShapes Go.Deep
section
variable {H : Type} {enc : TypeId × Value → H} {P : Program} {w : World} {base : Nat} {spare : Nat → Bool} {held : Bool}
end
end
section
open Go Go.RowKit Go.ChangeShapes Go.WideShapes Go.Deep
instance : Inhabited PutA := ⟨{}⟩
structure FltA where
 k : Nat := 0
 s : Nat := 0
 n : Nat := 0
instance : Inhabited FltA := ⟨{}⟩
section
variable {H : Type} {enc : TypeId × Value → H} {P : Program} {w : World} {base : Nat} {spare : Nat → Bool} {held : Bool}
end
end
section
open Go Go.RowKit
theorem eqlY_some_nil (a : Addr) (w : World) : (binOp .eql 76 (.pointer (some a)) (.pointer none)).run Tryz.prog w = .ok (.bool false) w := by
 have h : ∀ d : Nat, (Op.equalIn (d + 1) 76 (.pointer (some a)) (.pointer none)).run Tryz.prog w = .ok false w := fun d => by
  simp [Op.equalIn, run_underlying Tryz.underlying76]
 simp only [binOp]
 simp [Op.equal, Op.maxDepth, h 9999]
end
end Go.Proofs.YtmpaocpgoihliaaGreatDoor
