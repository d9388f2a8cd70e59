/-
  The ghost statements' Do and Same: an act at the program's disk, at the document's; both side by side.
-/
import Derived.Test.YtmpaocpgoihliaaGreatDoorP00
import Derived.Test.YtmpaocpgoihliaaGreatDoorP12
import Derived.Test.YtmpaocpgoihliaaGreatDoorP17
import Derived.Test.YtmpaocpgoihliaaGreatDoorP21
import Derived.Test.YtmpaocpgoihliaaGreatDoorP24
import Derived.Test.YtmpaocpgoihliaaGreatDoorP25
namespace Go.Proofs.YtmpaocpgoihliaaGreatDoor
set_option maxRecDepth 100000
section
open Go Go.RowKit
theorem left_step {w0 w w2 v : World} {d : Nat} {F F' : Nat → Prop} {m : DM} (hF : ∀ i, F i → i < w.heap.size) (hx : Ext w w2) (h : Left w0 w2 d F' (fun i => F i ∨ w2.heap.size ≤ i) v m) : Step d F w m v :=
 ⟨h.dk.disk.more (fun i hi => (h.le i hi).imp id fun h1 => ⟨Nat.le_trans hx.size h1, h.dk.disk.lt i hi⟩) (fun i hi => hi.elim (fun h1 => Nat.lt_of_lt_of_le (hF i h1) (Nat.le_trans hx.size h.mod.size)) (fun h1 => h1.2)),
  (Mod.of_ext hx).trans h.mod fun _ hi => hi.imp id fun h1 => Nat.le_trans hx.size h1⟩
structure RLeft (w2 : World) (d : Nat) (p p' : Nat → Nat) (v : World) (m : DM) : Prop where
 rd : RD v d p' m
 le : ∀ i, p' i ≠ 0 → p i ≠ 0 ∨ w2.heap.size ≤ i
 mod : Mod (fun i => p i ≠ 0 ∨ w2.heap.size ≤ i) w2 v
section
variable {w0 w w2 v v' : World} {d : Nat} {p p' : Nat → Nat} {m m2 : DM}
theorem RLeft.ext (h : RLeft w2 d p p' v m) (hx : Ext v v') : RLeft w2 d p p' v' m := ⟨h.rd.ext hx, h.le, h.mod.ext hx⟩
theorem RLeft.bel (h : RLeft w2 d p p' v m) (hx : Ext w0 w2) (hl : ∀ i, p i ≠ 0 → w0.heap.size ≤ i) : Ext w0 v := Below.mod hx h.mod hx.size fun i hi => hi.elim (hl i) fun h1 => Nat.le_trans hx.size h1
theorem RLeft.step (h : RLeft w2 d p p' v m) (ho : ROut d p' v m2 v') : ∃ p2, RLeft w2 d p p2 v' m2 := by
 obtain ⟨p2, h1, h2, h3⟩ := ho
 exact ⟨p2, h1, fun i hi => (h3 i hi).elim (h.le i) fun h4 => .inr (Nat.le_trans h.mod.size h4), h.mod.trans h2 fun i hi => .inl (h.le i hi)⟩
theorem RLeft.out (hx : Ext w w2) (h : RLeft w2 d p p' v m) : ROut d p w m v :=
 ⟨p', h.rd, ((Mod.of_ext hx).trans (F := fun k => p k ≠ 0) h.mod fun _ hi => hi.imp id fun h1 => Nat.le_trans hx.size h1), fun i hi => (h.le i hi).imp id fun h1 => Nat.le_trans hx.size h1⟩
end
theorem roff_piece {G : Nat → Prop} {p : Nat → Nat} {g o o' : Nat} (hp : ∀ i, p i ≠ 0 → G i) (h : Off G (some ⟨g, o, none⟩)) : ¬ ∃ g2 o2, (some ⟨g, o', none⟩ : Option Addr) = some ⟨g2, o2, none⟩ ∧ p g2 ≠ 0 := by
 rintro ⟨g2, o2, e, hg⟩
 injection e with e
 injection e with e _
 subst e
 exact h _ rfl (hp _ hg)
set_option maxHeartbeats 2400000 in
theorem do6_step {w0 w : World} {d : Nat} {F : Nat → Prop} {m : DM} (h : DK w0 w d F m) (hL : LaidT w0) (x : Act6) (hx : x.Ok w0 w0.heap.size) (hs : x.sl = true) (hfew : m.waits.length ≤ 1000) :
 Calls Tryz.prog 15 #[.pointer (some ⟨d, 0, none⟩), .agg #[.bool x.sl, .int .i64 x.ta, .int .i64 x.tb, .int .i64 x.tc, .int .i64 x.td, .int .i64 x.te, .slice x.bA x.bn x.bc, .int .u8 (x.act.kind : Int), .int .i64 x.act.sec, .int .i64 x.act.num, .slice x.act.bA x.act.bn x.act.bc, .slice x.act.kA x.act.kn x.act.kc]] w fun e w' => (∃ v, e = .returned v) ∧ Step d F w (m.act6 x) w' := by
 have hB := heap_alloc_new w (box6 x)
 have hE := (Ext.refl w).alloc (box6 x)
 have hlt : w.heap.size < (w.alloc (box6 x)).heap.size := by simp
 have HB := Lib.hid hB
 have HE := Lib.hid hE
 have H := Lib.hid h
 have HL := Lib.hid hL
 have HBY : Hid (By w x.bA x.bn x.bc x.bl) := Lib.hid ((hx.body.below h.bel).more h.bel.size)
 obtain ⟨c0, c1, c2, c3, c4, c5, c6, c7, c8, c9, c10, c11⟩ := box6_cells hB
 obtain ⟨W, hW⟩ : ∃ W, wideN x.ta x.tb x.tc x.td x.te = W := ⟨_, rfl⟩
 have hW2 := wideN_le x.ta x.tb x.tc x.td x.te
 rw [hW] at hW2
 obtain ⟨E, hEE⟩ : ∃ E, x.sE = E := ⟨_, rfl⟩
 obtain ⟨L, hLL⟩ : ∃ L, x.sL = L := ⟨_, rfl⟩
 obtain ⟨S, hS⟩ : ∃ S, firstS x.tb x.tc = S := ⟨_, rfl⟩
 have hSb : -1 ≤ S ∧ S ≤ 156 := by rw [← hS]; exact firstS_in x.tb x.tc
 have HACT : Hid (m.act6 x = if E = 0 then m.puts S L W else m) := Lib.hid (by unfold DM.act6; rw [if_pos hs, hEE, hS, hLL, hW])
 have hwd : ∀ V, Ext w0 V → Calls Tryz.prog 57 #[.agg #[.int .i64 x.ta, .int .i64 x.tb, .int .i64 x.tc, .int .i64 x.td, .int .i64 x.te]] V fun r w' => r = .returned (.int .i64 (W : Nat)) ∧ Ext V w' := fun V hV => by
  have := wide6_any x.ta x.tb x.tc x.td x.te V (hL.ext hV)
  rwa [hW] at this
 have hsl : ∀ V, Ext w V → Calls Tryz.prog 56 #[.agg #[.int .i64 x.ta, .int .i64 x.tb, .int .i64 x.tc, .int .i64 x.td, .int .i64 x.te], .slice x.bA x.bn x.bc, .int .i64 (W : Nat)] V fun r w' => ∃ A' c', r = .returned (.tuple #[.slice A' L.length c', .int .i64 E]) ∧ By w' A' L.length c' L ∧ Ext V w' ∧ w'.ownsRow V.heap.size 5 1 (.slice A' L.length c') L.length (vb L) := fun V hV => by
  have := rseal_own x.ta x.tb x.tc x.td x.te (W : Nat) x.bA x.bn x.bc x.bl V (HBY.out.ext hV)
  unfold Act6.sE Act6.sL at *
  rw [hW] at hEE hLL
  rwa [hEE, hLL] at this
 have hlen : E = 0 → L.length = 64 * W ∧ 1 ≤ W := fun h0 => by
  have hbl : x.bl.length = x.bn := hx.body.len
  unfold Act6.sE at hEE
  unfold Act6.sL at hLL
  rw [hW] at hEE hLL
  rw [← hLL]
  have := (sealL_len (a := x.ta) (b := x.tb) (c := x.tc) (d := x.td) (e := x.te) (body := x.bl) (s := (W : Nat)) (by rw [hbl, hEE]; exact h0))
  rw [this.1, Int.toNat_natCast]
  exact ⟨rfl, by omega⟩
 have hfst : ∀ V, Ext w0 V → Calls Tryz.prog 59 #[.int .i64 x.tb, .int .i64 x.tc] V fun r w' => r = .returned (.int .i64 S) ∧ Ext V w' := fun V hV => by
  have := first_any x.tb x.tc V (hL.ext hV)
  rwa [hS] at this
 have HWD := Lib.hid hwd
 have HSL := Lib.hid hsl
 have HLEN := Lib.hid hlen
 rw [hs] at c0 ⊢
 have hBX : box6 x = .cells #[.bool true, .int .i64 x.ta, .int .i64 x.tb, .int .i64 x.tc, .int .i64 x.td, .int .i64 x.te, .slice x.bA x.bn x.bc, .int .u8 (x.act.kind : Int), .int .i64 x.act.sec, .int .i64 x.act.num, .slice x.act.bA x.act.bn x.act.bc, .slice x.act.kA x.act.kn x.act.kc] 50 := by unfold box6; rw [hs]
 rw [hBX] at hE c0 c1 c2 c3 c4 c5 c6 c7 c8 c9 c10 c11
 have HEX : Hid (Ext w (w.alloc (.cells #[.bool true, .int .i64 x.ta, .int .i64 x.tb, .int .i64 x.tc, .int .i64 x.td, .int .i64 x.te, .slice x.bA x.bn x.bc, .int .u8 (x.act.kind : Int), .int .i64 x.act.sec, .int .i64 x.act.num, .slice x.act.bA x.act.bn x.act.bc, .slice x.act.kA x.act.kn x.act.kc] 50)).drew) := Lib.hid hE.drew
 have HS := Lib.hid hfst
 have HEX0 := Lib.hid (h.bel.trans HEX.out)
 rw [hBX] at HB hlt
 clear h hL hx hEE hLL hS hW hwd hsl hlen hfst HBY hB hE HE
 go_enter Tryz.func15, Tryz.ntmps15
 go_wp2_with fail
 have hk1 : Hid (Ext (w.alloc (.cells #[.bool true, .int .i64 x.ta, .int .i64 x.tb, .int .i64 x.tc, .int .i64 x.td, .int .i64 x.te, .slice x.bA x.bn x.bc, .int .u8 (x.act.kind : Int), .int .i64 x.act.sec, .int .i64 x.act.num, .slice x.act.bA x.act.bn x.act.bc, .slice x.act.kA x.act.kn x.act.kc] 50)).drew (w.alloc (.cells #[.bool true, .int .i64 x.ta, .int .i64 x.tb, .int .i64 x.tc, .int .i64 x.td, .int .i64 x.te, .slice x.bA x.bn x.bc, .int .u8 (x.act.kind : Int), .int .i64 x.act.sec, .int .i64 x.act.num, .slice x.act.bA x.act.bn x.act.bc, .slice x.act.kA x.act.kn x.act.kc] 50)).drew) := Lib.hid (Ext.refl _)
 go_region_held3 (fun w' => w'.cell? ⟨w.heap.size, 1, none⟩ = some (.int .i64 x.ta) ∧ w'.cell? ⟨w.heap.size, 2, none⟩ = some (.int .i64 x.tb) ∧ w'.cell? ⟨w.heap.size, 3, none⟩ = some (.int .i64 x.tc) ∧ w'.cell? ⟨w.heap.size, 4, none⟩ = some (.int .i64 x.td) ∧ w'.cell? ⟨w.heap.size, 5, none⟩ = some (.int .i64 x.te) ∧ w'.cell? ⟨w.heap.size, 6, none⟩ = some (.slice x.bA x.bn x.bc))
  (first | exact keep_box (by assumption) rfl HB)
  (first
   | (go_at_call 57; ((with_reducible refine (HWD.out _ HEX0.out).mono ?_); rintro e w1 ⟨rfl, hx⟩; have HK1 := Lib.hid hx; have HE1 : Hid (Ext w w1) := Lib.hid (HEX.out.trans hx); clear hx))
   | (go_at_call 56; ((with_reducible refine (HSL.out _ HE1.out).mono ?_); rintro e w2 ⟨A, c, rfl, hb, hx, ho⟩; have HK2 := Lib.hid (HK1.out.trans hx); have HE2 : Hid (Ext w w2) := Lib.hid (HE1.out.trans hx); have HBL := Lib.hid hb; have HOW := Lib.hid ho; clear hx hb ho)))
 have HB2 : Hid (w2.heap[w.heap.size]? = _) := Lib.hid ((HK2.out.block _ hlt).trans HB.out)
 have H2 := Lib.hid (H.out.ext HE2.out)
 have hsz1 := HE1.out.size
 have hsz2 : w.heap.size < w2.heap.size := (Array.getElem?_eq_some_iff.1 HB2.out).1
 clear HB HWD HSL hk1 HK1 HK2 HEX HEX0 hlt c0 c1 c2 c3 c4 c5 c6 c7 c8 c9 c10 c11
 by_cases h0 : E = 0
 ·have HACT : Hid (m.act6 x = m.puts S L W) := Lib.hid (by rw [HACT.out, if_pos h0])
  subst h0
  obtain ⟨hl, hw1⟩ := HLEN.out rfl
  obtain ⟨g, o, z, rfl, hg2, _⟩ := HBL.out.rd.at_ (k := 0) (by omega)
  have hg1 : w1.heap.size ≤ g := (HOW.out.lt g rfl).1
  have hoff : Off (fun i => F i ∨ w2.heap.size ≤ i) (some ⟨g, o, none⟩) := fun p hp hh => by
   injection hp with hp
   subst hp
   rcases hh with hh | hh
   ·exact absurd (H.out.disk.lt _ hh) (by show ¬ g < _; omega)
   ·exact absurd hh (by show ¬ _ ≤ g; omega)
  have hGB : ¬ (fun i => F i ∨ w2.heap.size ≤ i) w.heap.size := fun hh => hh.elim (fun h1 => absurd (H.out.disk.lt _ h1) (by omega)) (fun h1 => absurd h1 (by omega))
  have HOFF := Lib.hid hoff
  have HGB := Lib.hid hGB
  have hcap := HBL.out.cap
  have hdiv : (64 * (W : Int)).tdiv 64 = (W : Int) := by rw [Int.tdiv_eq_ediv_of_nonneg (by omega)]; omega
  have hdiv2 : (64 * (W : Int)) / 64 = (W : Int) := by omega
  rw [hl] at HBL HOW hcap
  rw [hl]
  have HBL := Lib.hid HBL.out
  clear hoff hGB HOW hl
  go_wp2_with fail
  go_loopw [6] (fun i wr => ∃ (k : Nat) (F' : Nat → Prop), k ≤ W ∧ i = .int .i64 k ∧ Hid (Left w0 w2 d F' (fun i => F i ∨ w2.heap.size ≤ i) wr (m.puts S L k))) (fun i _ => W - (intOf i).toNat)
  case atStart => exact ⟨0, F, Nat.zero_le _, rfl, Lib.hid ⟨H2.out, fun i hi => .inl hi, Mod.refl _ _⟩⟩
  case round =>
   obtain ⟨k, F', hk, rfl, HLF⟩ := hrel
   by_cases hlt : k < W
   ·have hkk : 64 * k + 64 ≤ 64 * W := by omega
    have hcut : ∀ V : World, (Instr.slice 45 (.slice (some ⟨g, o, none⟩) (64 * W) c) (some (.int .i64 (64 * (k : Int)))) (some (.int .i64 (64 * (k : Int) + 64))) none).run Tryz.prog V = .ok (.slice (some ⟨g, o + 64 * k, none⟩) 64 (c - 64 * k)) V := fun V => by
     have := cut_mid g o (64 * W) c (64 * k) (64 * k + 64) (by omega) (by omega) (by omega) V
     rw [show 64 * k + 64 - 64 * k = 64 by omega] at this
     rw [show (64 * (k : Int)) = ((64 * k : Nat) : Int) by omega, show (((64 * k : Nat) : Int) + 64) = ((64 * k + 64 : Nat) : Int) by omega]
     exact this
    have q1 : IntKind.i64.wrap (64 * (k : Int)) = 64 * (k : Int) := IntWalk.i64_in _ (by omega)
    have q2 : IntKind.i64.wrap (64 * (k : Int) + 64) = 64 * (k : Int) + 64 := IntWalk.i64_in _ (by omega)
    have q3 : IntKind.i64.wrap (S + (k : Int)) = S + (k : Int) := IntWalk.i64_in _ (by omega)
    have HDa := Lib.hid (HLF.out.ext (Ext.refl wr).drew)
    have HMa := Lib.hid HDa.out.mod
    have HWa := Lib.hid HDa.out.dk.bel
    have HFW : Hid ((m.puts S L k).waits.length ≤ 1000000) := Lib.hid (by have := puts_waits m S L k; omega)
    have hnext : m.puts S L (k + 1) = ((m.puts S L k).write (S + (k : Int)) ((L.drop (64 * k)).take 64)).2 := rfl
    have HNX := Lib.hid hnext
    have HKK := Lib.hid hkk
    clear hnext
    go_wp2_with fail
    go_region_held3 (fun w' => w'.cell? ⟨w.heap.size, 2, none⟩ = some (.int .i64 x.tb) ∧ w'.cell? ⟨w.heap.size, 3, none⟩ = some (.int .i64 x.tc))
     (first | exact keep_two2 (by assumption) HGB HB2)
     (first
      | (go_at_call 59; ((with_reducible refine (HS.out _ HWa.out).mono ?_); rintro e wv ⟨rfl, hx⟩; have HDb := Lib.hid (HDa.out.ext hx); have HMb := Lib.hid HDb.out.mod; clear hx))
      | (go_at_call 58; ((with_reducible refine (write_pd HDb.out.dk.disk (S + (k : Int)) (some ⟨g, o + 64 * k, none⟩) 64 (c - 64 * k) _ ((HBL.out.mod HMb.out HOFF.out).piece (64 * k) HKK.out) (off_piece HDb.out.le HOFF.out) HFW.out).mono ?_); unfold Outc; rintro e wz ⟨rfl, hp, hm⟩; have HDc := Lib.hid (HDb.out.step (fun i hi => .inr (Nat.le_trans HMb.out.size hi)) hp hm); have HMc := Lib.hid HDc.out.mod; clear hp hm)))
    go_wp2_with fail
    go_roundw
    case rel => exact ⟨k + 1, _, by omega, by go_num, by rw [HNX.out]; exact HDc⟩
    case measure => simp [intOf]; omega
   ·obtain rfl : k = W := by omega
    go_wp2_with fail
    go_end0
    exact ⟨⟨_, rfl⟩, by rw [HACT.out]; exact left_step H.out.disk.lt HE2.out HLF.out⟩
 ·have hne : (E == 0) = false := by simpa using h0
  have HACT : Hid (m.act6 x = m) := Lib.hid (by rw [HACT.out, if_neg h0])
  clear HLEN h0
  go_wp2_with fail
  go_loopw [6] (fun i wr => i = .int .i64 0 ∧ wr = w2) (fun _ _ => 0)
  case atStart => exact ⟨rfl, rfl⟩
  case round =>
   obtain ⟨rfl, rfl⟩ := hrel
   go_wp2_with fail
   go_end0
   exact ⟨⟨_, rfl⟩, by rw [HACT.out]; exact Step.of_ext H.out.disk HE2.out⟩
set_option maxHeartbeats 2400000 in
theorem same6_yes {w0 w : World} {d : Nat} {p : Nat → Nat} {m : DM} (h : RD w d p m) (hbel : Ext w0 w) (hlow : ∀ i, p i ≠ 0 → w0.heap.size ≤ i) (hL : LaidT w0) (x : Act6) (hx : x.Ok w0 w0.heap.size) (hs : x.sl = true) (hfew : m.waits.length ≤ 1000) :
 Calls Tryz.prog 16 #[.pointer (some ⟨d, 0, none⟩), .agg #[.bool x.sl, .int .i64 x.ta, .int .i64 x.tb, .int .i64 x.tc, .int .i64 x.td, .int .i64 x.te, .slice x.bA x.bn x.bc, .int .u8 (x.act.kind : Int), .int .i64 x.act.sec, .int .i64 x.act.num, .slice x.act.bA x.act.bn x.act.bc, .slice x.act.kA x.act.kn x.act.kc]] w fun e w' => (∃ v, e = .returned v) ∧ ROut d p w (m.act6 x) w' := by
 have hB := heap_alloc_new w (box6 x)
 have hE := (Ext.refl w).alloc (box6 x)
 have hlt : w.heap.size < (w.alloc (box6 x)).heap.size := by simp
 have HB := Lib.hid hB
 have HE := Lib.hid hE
 have H := Lib.hid h
 have HL := Lib.hid hL
 have HBY : Hid (By w x.bA x.bn x.bc x.bl) := Lib.hid ((hx.body.below hbel).more hbel.size)
 obtain ⟨c0, c1, c2, c3, c4, c5, c6, c7, c8, c9, c10, c11⟩ := box6_cells hB
 obtain ⟨W, hW⟩ : ∃ W, wideN x.ta x.tb x.tc x.td x.te = W := ⟨_, rfl⟩
 have hW2 := wideN_le x.ta x.tb x.tc x.td x.te
 rw [hW] at hW2
 obtain ⟨E, hEE⟩ : ∃ E, x.sE = E := ⟨_, rfl⟩
 obtain ⟨L, hLL⟩ : ∃ L, x.sL = L := ⟨_, rfl⟩
 obtain ⟨S, hS⟩ : ∃ S, firstS x.tb x.tc = S := ⟨_, rfl⟩
 have hSb : -1 ≤ S ∧ S ≤ 156 := by rw [← hS]; exact firstS_in x.tb x.tc
 have HACT : Hid (m.act6 x = if E = 0 then m.puts S L W else m) := Lib.hid (by unfold DM.act6; rw [if_pos hs, hEE, hS, hLL, hW])
 have hwd : ∀ V, Ext w0 V → Calls Tryz.prog 57 #[.agg #[.int .i64 x.ta, .int .i64 x.tb, .int .i64 x.tc, .int .i64 x.td, .int .i64 x.te]] V fun r w' => r = .returned (.int .i64 (W : Nat)) ∧ Ext V w' := fun V hV => by
  have := wide6_any x.ta x.tb x.tc x.td x.te V (hL.ext hV)
  rwa [hW] at this
 have hsl : ∀ V, Ext w V → Calls Tryz.prog 56 #[.agg #[.int .i64 x.ta, .int .i64 x.tb, .int .i64 x.tc, .int .i64 x.td, .int .i64 x.te], .slice x.bA x.bn x.bc, .int .i64 (W : Nat)] V fun r w' => ∃ A' c', r = .returned (.tuple #[.slice A' L.length c', .int .i64 E]) ∧ By w' A' L.length c' L ∧ Ext V w' ∧ w'.ownsRow V.heap.size 5 1 (.slice A' L.length c') L.length (vb L) := fun V hV => by
  have := rseal_own x.ta x.tb x.tc x.td x.te (W : Nat) x.bA x.bn x.bc x.bl V (HBY.out.ext hV)
  unfold Act6.sE Act6.sL at *
  rw [hW] at hEE hLL
  rwa [hEE, hLL] at this
 have hlen : E = 0 → L.length = 64 * W ∧ 1 ≤ W := fun h0 => by
  have hbl : x.bl.length = x.bn := hx.body.len
  unfold Act6.sE at hEE
  unfold Act6.sL at hLL
  rw [hW] at hEE hLL
  rw [← hLL]
  have := (sealL_len (a := x.ta) (b := x.tb) (c := x.tc) (d := x.td) (e := x.te) (body := x.bl) (s := (W : Nat)) (by rw [hbl, hEE]; exact h0))
  rw [this.1, Int.toNat_natCast]
  exact ⟨rfl, by omega⟩
 have hfst : ∀ V, Ext w0 V → Calls Tryz.prog 59 #[.int .i64 x.tb, .int .i64 x.tc] V fun r w' => r = .returned (.int .i64 S) ∧ Ext V w' := fun V hV => by
  have := first_any x.tb x.tc V (hL.ext hV)
  rwa [hS] at this
 have HWD := Lib.hid hwd
 have HSL := Lib.hid hsl
 have HLEN := Lib.hid hlen
 rw [hs] at c0 ⊢
 have hBX : box6 x = .cells #[.bool true, .int .i64 x.ta, .int .i64 x.tb, .int .i64 x.tc, .int .i64 x.td, .int .i64 x.te, .slice x.bA x.bn x.bc, .int .u8 (x.act.kind : Int), .int .i64 x.act.sec, .int .i64 x.act.num, .slice x.act.bA x.act.bn x.act.bc, .slice x.act.kA x.act.kn x.act.kc] 50 := by unfold box6; rw [hs]
 rw [hBX] at hE c0 c1 c2 c3 c4 c5 c6 c7 c8 c9 c10 c11
 have HEX : Hid (Ext w (w.alloc (.cells #[.bool true, .int .i64 x.ta, .int .i64 x.tb, .int .i64 x.tc, .int .i64 x.td, .int .i64 x.te, .slice x.bA x.bn x.bc, .int .u8 (x.act.kind : Int), .int .i64 x.act.sec, .int .i64 x.act.num, .slice x.act.bA x.act.bn x.act.bc, .slice x.act.kA x.act.kn x.act.kc] 50)).drew) := Lib.hid hE.drew
 have HS := Lib.hid hfst
 have HEX0 := Lib.hid (hbel.trans HEX.out)
 have HBEL := Lib.hid hbel
 have HLOW := Lib.hid hlow
 rw [hBX] at HB hlt
 clear h hL hbel hlow hx hEE hLL hS hW hwd hsl hlen hfst HBY hB hE HE
 go_enter Tryz.func16, Tryz.ntmps16
 go_wp2_with fail
 have hk1 : Hid (Ext (w.alloc (.cells #[.bool true, .int .i64 x.ta, .int .i64 x.tb, .int .i64 x.tc, .int .i64 x.td, .int .i64 x.te, .slice x.bA x.bn x.bc, .int .u8 (x.act.kind : Int), .int .i64 x.act.sec, .int .i64 x.act.num, .slice x.act.bA x.act.bn x.act.bc, .slice x.act.kA x.act.kn x.act.kc] 50)).drew (w.alloc (.cells #[.bool true, .int .i64 x.ta, .int .i64 x.tb, .int .i64 x.tc, .int .i64 x.td, .int .i64 x.te, .slice x.bA x.bn x.bc, .int .u8 (x.act.kind : Int), .int .i64 x.act.sec, .int .i64 x.act.num, .slice x.act.bA x.act.bn x.act.bc, .slice x.act.kA x.act.kn x.act.kc] 50)).drew) := Lib.hid (Ext.refl _)
 go_region_held3 (fun w' => w'.cell? ⟨w.heap.size, 1, none⟩ = some (.int .i64 x.ta) ∧ w'.cell? ⟨w.heap.size, 2, none⟩ = some (.int .i64 x.tb) ∧ w'.cell? ⟨w.heap.size, 3, none⟩ = some (.int .i64 x.tc) ∧ w'.cell? ⟨w.heap.size, 4, none⟩ = some (.int .i64 x.td) ∧ w'.cell? ⟨w.heap.size, 5, none⟩ = some (.int .i64 x.te) ∧ w'.cell? ⟨w.heap.size, 6, none⟩ = some (.slice x.bA x.bn x.bc))
  (first | exact keep_box (by assumption) rfl HB)
  (first
   | (go_at_call 57; ((with_reducible refine (HWD.out _ HEX0.out).mono ?_); rintro e w1 ⟨rfl, hx⟩; have HK1 := Lib.hid hx; have HE1 : Hid (Ext w w1) := Lib.hid (HEX.out.trans hx); clear hx))
   | (go_at_call 56; ((with_reducible refine (HSL.out _ HE1.out).mono ?_); rintro e w2 ⟨A, c, rfl, hb, hx, ho⟩; have HK2 := Lib.hid (HK1.out.trans hx); have HE2 : Hid (Ext w w2) := Lib.hid (HE1.out.trans hx); have HBL := Lib.hid hb; have HOW := Lib.hid ho; clear hx hb ho)))
 have HB2 : Hid (w2.heap[w.heap.size]? = _) := Lib.hid ((HK2.out.block _ hlt).trans HB.out)
 have H2 := Lib.hid (H.out.ext HE2.out)
 have hsz1 := HE1.out.size
 have hsz2 : w.heap.size < w2.heap.size := (Array.getElem?_eq_some_iff.1 HB2.out).1
 clear HB HWD HSL hk1 HK1 HK2 HEX HEX0 hlt c0 c1 c2 c3 c4 c5 c6 c7 c8 c9 c10 c11
 by_cases h0 : E = 0
 ·have HACT : Hid (m.act6 x = m.puts S L W) := Lib.hid (by rw [HACT.out, if_pos h0])
  subst h0
  obtain ⟨hl, hw1⟩ := HLEN.out rfl
  obtain ⟨g, o, z, rfl, hg2, _⟩ := HBL.out.rd.at_ (k := 0) (by omega)
  have hg1 : w1.heap.size ≤ g := (HOW.out.lt g rfl).1
  have hoff : Off (fun i => p i ≠ 0 ∨ w2.heap.size ≤ i) (some ⟨g, o, none⟩) := fun q hq hh => by
   injection hq with hq
   subst hq
   rcases hh with hh | hh
   ·exact absurd (H.out.2 _ hh) (by show ¬ g < _; omega)
   ·exact absurd hh (by show ¬ _ ≤ g; omega)
  have hGB : ¬ (fun i => p i ≠ 0 ∨ w2.heap.size ≤ i) w.heap.size := fun hh => hh.elim (fun h1 => absurd (H.out.2 _ h1) (by omega)) (fun h1 => absurd h1 (by omega))
  have HOFF := Lib.hid hoff
  have HGB := Lib.hid hGB
  have hcap := HBL.out.cap
  have hdiv : (64 * (W : Int)).tdiv 64 = (W : Int) := by rw [Int.tdiv_eq_ediv_of_nonneg (by omega)]; omega
  have hdiv2 : (64 * (W : Int)) / 64 = (W : Int) := by omega
  rw [hl] at HBL HOW hcap
  rw [hl]
  have HBL := Lib.hid HBL.out
  clear hoff hGB HOW hl
  go_wp2_with fail
  go_loopw [6] (fun i wr => ∃ (k : Nat) (p' : Nat → Nat), k ≤ W ∧ i = .int .i64 k ∧ Hid (RLeft w2 d p p' wr (m.puts S L k))) (fun i _ => W - (intOf i).toNat)
  case atStart => exact ⟨0, p, Nat.zero_le _, rfl, Lib.hid ⟨H2.out, fun i hi => .inl hi, Mod.refl _ _⟩⟩
  case round =>
   obtain ⟨k, p', hk, rfl, HLF⟩ := hrel
   by_cases hlt : k < W
   ·have hkk : 64 * k + 64 ≤ 64 * W := by omega
    have hcut : ∀ V : World, (Instr.slice 45 (.slice (some ⟨g, o, none⟩) (64 * W) c) (some (.int .i64 (64 * (k : Int)))) (some (.int .i64 (64 * (k : Int) + 64))) none).run Tryz.prog V = .ok (.slice (some ⟨g, o + 64 * k, none⟩) 64 (c - 64 * k)) V := fun V => by
     have := cut_mid g o (64 * W) c (64 * k) (64 * k + 64) (by omega) (by omega) (by omega) V
     rw [show 64 * k + 64 - 64 * k = 64 by omega] at this
     rw [show (64 * (k : Int)) = ((64 * k : Nat) : Int) by omega, show (((64 * k : Nat) : Int) + 64) = ((64 * k + 64 : Nat) : Int) by omega]
     exact this
    have q1 : IntKind.i64.wrap (64 * (k : Int)) = 64 * (k : Int) := IntWalk.i64_in _ (by omega)
    have q2 : IntKind.i64.wrap (64 * (k : Int) + 64) = 64 * (k : Int) + 64 := IntWalk.i64_in _ (by omega)
    have q3 : IntKind.i64.wrap (S + (k : Int)) = S + (k : Int) := IntWalk.i64_in _ (by omega)
    have HDa := Lib.hid (HLF.out.ext (Ext.refl wr).drew)
    have HMa := Lib.hid HDa.out.mod
    have HWa := Lib.hid (HDa.out.bel (HBEL.out.trans HE2.out) HLOW.out)
    have HFW : Hid ((m.puts S L k).waits.length ≤ 1000000) := Lib.hid (by have := puts_waits m S L k; omega)
    have hnext : m.puts S L (k + 1) = ((m.puts S L k).write (S + (k : Int)) ((L.drop (64 * k)).take 64)).2 := rfl
    have HNX := Lib.hid hnext
    have HKK := Lib.hid hkk
    clear hnext
    go_wp2_with fail
    go_region_held3 (fun w' => w'.cell? ⟨w.heap.size, 2, none⟩ = some (.int .i64 x.tb) ∧ w'.cell? ⟨w.heap.size, 3, none⟩ = some (.int .i64 x.tc))
     (first | exact keep_two2 (by assumption) HGB HB2)
     (first
      | (go_at_call 59; ((with_reducible refine (HS.out _ HWa.out).mono ?_); rintro e wv ⟨rfl, hx⟩; have HDb := Lib.hid (HDa.out.ext hx); have HMb := Lib.hid HDb.out.mod; clear hx))
      | (go_at_call 61; ((with_reducible refine (rwrite_out HDb.out.rd (S + (k : Int)) (some ⟨g, o + 64 * k, none⟩) 64 (c - 64 * k) _ ((HBL.out.mod HMb.out HOFF.out).piece (64 * k) HKK.out) (roff_piece HDb.out.le HOFF.out) HFW.out).mono ?_); rintro e wz ⟨rfl, ho⟩; obtain ⟨p2, hl2⟩ := HDb.out.step ho; have HDc := Lib.hid hl2; have HMc := Lib.hid HDc.out.mod; clear ho hl2)))
    go_wp2_with fail
    go_roundw
    case rel => exact ⟨k + 1, _, by omega, by go_num, by rw [HNX.out]; exact HDc⟩
    case measure => simp [intOf]; omega
   ·obtain rfl : k = W := by omega
    go_wp2_with fail
    go_end0
    exact ⟨⟨_, rfl⟩, by rw [HACT.out]; exact RLeft.out HE2.out HLF.out⟩
 ·have hne : (E == 0) = false := by simpa using h0
  have HACT : Hid (m.act6 x = m) := Lib.hid (by rw [HACT.out, if_neg h0])
  clear HLEN h0
  go_wp2_with fail
  go_loopw [6] (fun i wr => i = .int .i64 0 ∧ wr = w2) (fun _ _ => 0)
  case atStart => exact ⟨rfl, rfl⟩
  case round =>
   obtain ⟨rfl, rfl⟩ := hrel
   go_wp2_with fail
   go_end0
   exact ⟨⟨_, rfl⟩, by rw [HACT.out]; exact RLeft.out HE2.out ⟨H2.out, fun i hi => .inl hi, Mod.refl _ _⟩⟩
theorem Both.of_step {w0 w w' : World} {d r : Nat} {F : Nat → Prop} {p : Nat → Nat} {m m' m2 : DM} (h : Both w0 w d r F p m m') (k : Step d F w m2 w') : Both w0 w' d r (grow F w w') p m2 m' :=
 ⟨h.dk.step k.1 k.2, h.rd.mod k.2 h.apart, h.low, fun i hi hg => hg.elim (h.apart i hi) (fun hh => by have := h.rd.2 i hi; omega)⟩
end
section
open Go Go.RowKit
theorem rd_size {w : World} {d : Nat} {p : Nat → Nat} {m : DM} (h : RD w d p m) : 1 ≤ m.size ∧ m.size ≤ 1024 ∧ m.Ok := by
 obtain ⟨⟨q, hq⟩, _⟩ := h
 exact ⟨hq.head.n1.1, hq.head.n1.2, hq.ok⟩
end
section
open Go Go.RowKit
theorem rd_heads {w : World} {d : Nat} {p : Nat → Nat} {m : DM} (h : RD w d p m) : ∃ g c, w.cell? ⟨d, 0, none⟩ = some (.slice (some ⟨g, 0, none⟩) m.size c) ∧ w.cell? ⟨d, 4, none⟩ = some (.bool m.down) ∧ w.cell? ⟨d, 5, none⟩ = some (.bool m.dead) := by
 obtain ⟨⟨q, hq⟩, _⟩ := h
 obtain ⟨⟨d0, _, _, _, d4, d5, _⟩, _⟩ := hq.head.cells
 exact ⟨_, _, d0, d4, d5⟩
def askC (sz : Nat) (r g : Int) : Bool := decide (156 ≤ sz) && ((decide (g = 1) || decide (g = 2)) && (decide (0 ≤ r) && decide (r ≤ 6)))
theorem askC_yes {sz : Nat} {r g : Int} (h : knownC sz r g = 0) : askC sz r g = true := by
 obtain ⟨h1, h2, h3, h4⟩ := knownC_ok h
 unfold askC
 rw [decide_eq_true h1, decide_eq_true h3, decide_eq_true (p := r ≤ 6) (by omega)]
 rcases h2 with rfl | rfl <;> rfl
theorem askC_no {sz : Nat} {r g : Int} (hs : 1 ≤ sz) (h : knownC sz r g ≠ 0) : askC sz r g = false ∧ knownC sz r g = 2 := by
 unfold knownC at h ⊢
 rw [if_neg (by omega)] at h ⊢
 by_cases h1 : sz < 156 ∨ (g ≠ 1 ∧ g ≠ 2) ∨ r < 0 ∨ 7 ≤ r
 ·rw [if_pos h1]
  refine ⟨?_, rfl⟩
  cases hb : askC sz r g with
  | false => rfl
  | true =>
   unfold askC at hb
   simp only [Bool.and_eq_true, Bool.or_eq_true, decide_eq_true_eq] at hb
   omega
 ·rw [if_neg h1] at h
  exact absurd rfl h
theorem rask_of {w : World} {d : Nat} {p : Nat → Nat} {m : DM} (h : RD w d p m) (r g : Int) :
 Calls Tryz.prog 159 #[.pointer (some ⟨d, 0, none⟩), .int .i64 r, .int .i64 g] w fun e w' => e = .returned (.bool (askC m.size r g)) ∧ w = w' := by
 obtain ⟨g0, c0, d0, _, _⟩ := rd_heads h
 have hsz := (rd_size h).2.1
 generalize m.size = sz at *
 have HA : Hid (askC sz r g = (decide (156 ≤ sz) && ((decide (g = 1) || decide (g = 2)) && (decide (0 ≤ r) && decide (r ≤ 6))))) := Lib.hid rfl
 clear h
 by_cases h1 : 156 ≤ sz
 ·by_cases h2 : g = 1
  ·subst h2
   by_cases h3 : 0 ≤ r
   ·by_cases h4 : r ≤ 6
    ·have HQ : Hid (askC sz r 1 = true) := Lib.hid (by rw [HA.out]; rw [decide_eq_true h1, decide_eq_true (rfl : (1 : Int) = 1), decide_eq_true h3, decide_eq_true h4]; rfl)
     rw [HQ.out]
     go_enter Tryz.func159, Tryz.ntmps159
     go_wp2_with fail
     go_ret
     exact ⟨rfl, rfl⟩
    ·have HQ : Hid (askC sz r 1 = false) := Lib.hid (by rw [HA.out]; rw [decide_eq_false h4]; simp)
     rw [HQ.out]
     go_enter Tryz.func159, Tryz.ntmps159
     go_wp2_with fail
     go_ret
     exact ⟨rfl, rfl⟩
   ·have HQ : Hid (askC sz r 1 = false) := Lib.hid (by rw [HA.out]; rw [decide_eq_false h3]; simp)
    rw [HQ.out]
    go_enter Tryz.func159, Tryz.ntmps159
    go_wp2_with fail
    go_ret
    exact ⟨rfl, rfl⟩
  ·have n1 : (g == 1) = false := by simpa using h2
   by_cases h5 : g = 2
   ·subst h5
    by_cases h3 : 0 ≤ r
    ·by_cases h4 : r ≤ 6
     ·have HQ : Hid (askC sz r 2 = true) := Lib.hid (by rw [HA.out]; rw [decide_eq_true h1, decide_eq_true (rfl : (2 : Int) = 2), decide_eq_false (p := (2 : Int) = 1) (by omega), decide_eq_true h3, decide_eq_true h4]; rfl)
      rw [HQ.out]
      go_enter Tryz.func159, Tryz.ntmps159
      go_wp2_with fail
      go_ret
      exact ⟨rfl, rfl⟩
     ·have HQ : Hid (askC sz r 2 = false) := Lib.hid (by rw [HA.out]; rw [decide_eq_false h4]; simp)
      rw [HQ.out]
      go_enter Tryz.func159, Tryz.ntmps159
      go_wp2_with fail
      go_ret
      exact ⟨rfl, rfl⟩
    ·have HQ : Hid (askC sz r 2 = false) := Lib.hid (by rw [HA.out]; rw [decide_eq_false h3]; simp)
     rw [HQ.out]
     go_enter Tryz.func159, Tryz.ntmps159
     go_wp2_with fail
     go_ret
     exact ⟨rfl, rfl⟩
   ·have n2 : (g == 2) = false := by simpa using h5
    have HQ : Hid (askC sz r g = false) := Lib.hid (by rw [HA.out]; rw [decide_eq_false h2, decide_eq_false h5]; simp)
    rw [HQ.out]
    go_enter Tryz.func159, Tryz.ntmps159
    go_wp2_with fail
    go_ret
    exact ⟨rfl, rfl⟩
 ·have HQ : Hid (askC sz r g = false) := Lib.hid (by rw [HA.out]; rw [decide_eq_false h1]; simp)
  rw [HQ.out]
  go_enter Tryz.func159, Tryz.ntmps159
  go_wp2_with fail
  go_ret
  exact ⟨rfl, rfl⟩
set_option maxHeartbeats 1600000 in
theorem rload_of {w : World} {d : Nat} {p : Nat → Nat} {m : DM} (h : RD w d p m) (r g : Int) (hfew : m.waits.length ≤ 1000000) (hk : knownC m.size r g = 0) :
 Calls Tryz.prog 70 #[.pointer (some ⟨d, 0, none⟩), .int .i64 r, .int .i64 g] w fun e w' => ∃ A N c, e = .returned (.tuple #[.int .i64 (m.loadV r g : Nat), .slice A N c, .int .i64 (m.loadE r g)]) ∧ By w' A N c (m.loadB r g) ∧ Ext w w' := by
 have ha := rask_of h r g
 rw [askC_yes hk] at ha
 have HA := Lib.hid ha
 obtain ⟨g0, c0, d0, d4, d5⟩ := rd_heads h
 have hm0 := fun V (hx : Ext w V) => rcmine_of (h.ext hx) r g 0 hfew
 have hm1 := fun V (hx : Ext w V) => rcmine_of (h.ext hx) r g 1 hfew
 have hwh := fun V (hx : Ext w V) => rwhich_of (h.ext hx) r g hfew
 have HU : Hid (m.up = !(m.down || m.dead)) := Lib.hid rfl
 have HE : Hid (m.loadE r g = if m.up = false then 5 else cellE r g (m.cb g 0) (m.cb g 1)) := Lib.hid rfl
 have HV : Hid (m.loadV r g = if m.loadE r g = 0 then cellF r g (m.cb g 0) (m.cb g 1) 3 else 0) := Lib.hid rfl
 have HB : Hid (m.loadB r g = if m.loadE r g = 0 then cellB r g (m.cb g 0) (m.cb g 1) else []) := Lib.hid rfl
 have HC := atC_cases r g (m.cb g 0) (m.cb g 1)
 obtain ⟨x, hx⟩ : ∃ x, m.cb g 0 = x := ⟨_, rfl⟩
 obtain ⟨y, hy⟩ : ∃ y, m.cb g 1 = y := ⟨_, rfl⟩
 rw [hx] at hm0
 rw [hy] at hm1
 rw [hx, hy] at hwh HE HV HB HC
 clear hx hy
 cases hd : m.down with
 | true =>
  rw [hd] at d4
  have HE5 : Hid (m.loadE r g = 5) := Lib.hid (by rw [HE.out, if_pos (by rw [HU.out, hd]; rfl)])
  clear hd h hm0 hm1 hwh hk ha hfew
  go_enter Tryz.func70, Tryz.ntmps70
  go_wp2_with fail
  refine HA.out.mono ?_
  rintro e w1 ⟨rfl, rfl⟩
  go_wp2_with fail
  refine bodyPost_ret (v := .tuple #[.int .i64 0, .slice none 0 0, .int .i64 5]) (by simp [results, Tryz.results70, go_sem]) rfl ?_
  rw [HV.out, HB.out, HE5.out]
  exact ⟨_, _, _, rfl, By.nil_ _, Ext.refl _⟩
 | false =>
  cases hdd : m.dead with
  | true =>
   rw [hd] at d4
   rw [hdd] at d5
   have HE5 : Hid (m.loadE r g = 5) := Lib.hid (by rw [HE.out, if_pos (by rw [HU.out, hd, hdd]; rfl)])
   clear hd hdd h hm0 hm1 hwh hk ha hfew
   go_enter Tryz.func70, Tryz.ntmps70
   go_wp2_with fail
   refine HA.out.mono ?_
   rintro e w1 ⟨rfl, rfl⟩
   go_wp2_with fail
   refine bodyPost_ret (v := .tuple #[.int .i64 0, .slice none 0 0, .int .i64 5]) (by simp [results, Tryz.results70, go_sem]) rfl ?_
   rw [HV.out, HB.out, HE5.out]
   exact ⟨_, _, _, rfl, By.nil_ _, Ext.refl _⟩
  | false =>
   have HUP : Hid (¬ m.up = false) := Lib.hid (by rw [HU.out, hd, hdd]; simp)
   rw [hd] at d4
   rw [hdd] at d5
   have HM0 := Lib.hid hm0
   have HM1 := Lib.hid hm1
   have HWH := Lib.hid hwh
   clear h hm0 hm1 hwh hk ha hd hdd hfew
   rcases HC with hc | hc | hc
   ·have HE0 : Hid (m.loadE r g = 0) := Lib.hid (by rw [HE.out, if_neg HUP.out]; exact cellE_at (by rw [hc]; omega))
    have HV0 : Hid (m.loadV r g = mfl x r g 0 3) := Lib.hid (by rw [HV.out, if_pos HE0.out]; unfold cellF; rw [hc]; simp)
    have HB0 : Hid (m.loadB r g = mbl x r g 0) := Lib.hid (by rw [HB.out, if_pos HE0.out]; unfold cellB; rw [hc]; simp)
    rw [hc] at HWH
    have hce : cellE r g x y = 0 := cellE_at (by rw [hc]; omega)
    rw [hce] at HWH
    clear hc hce
    go_enter Tryz.func70, Tryz.ntmps70
    go_wp2_with fail
    refine HA.out.mono ?_
    rintro e w1 ⟨rfl, rfl⟩
    go_wp2_with fail
    refine (HWH.out _ (Ext.refl _)).mono ?_
    rintro e w2 ⟨rfl, hx⟩
    have HX := Lib.hid hx
    clear hx
    go_wp2_with fail
    refine (HM0.out _ HX.out).mono ?_
    rintro e w3 ⟨A0, N0, k0, rfl, hb, hx⟩
    have HX := Lib.hid (HX.out.trans hx)
    have HB1 := Lib.hid (hb.ext ((Ext.refl w3).alloc (.cells #[.int .i64 (mfl x r g 0 0 : Nat), .int .i64 (mfl x r g 0 1 : Nat), .int .i64 (mfl x r g 0 2 : Nat), .int .i64 (mfl x r g 0 3 : Nat), .int .i64 (mfl x r g 0 4 : Nat)] 44)))
    have HT0 := Lib.hid (heap_alloc_new w3 (.cells #[.int .i64 (mfl x r g 0 0 : Nat), .int .i64 (mfl x r g 0 1 : Nat), .int .i64 (mfl x r g 0 2 : Nat), .int .i64 (mfl x r g 0 3 : Nat), .int .i64 (mfl x r g 0 4 : Nat)] 44))
    have HX := Lib.hid (HX.out.alloc (.cells #[.int .i64 (mfl x r g 0 0 : Nat), .int .i64 (mfl x r g 0 1 : Nat), .int .i64 (mfl x r g 0 2 : Nat), .int .i64 (mfl x r g 0 3 : Nat), .int .i64 (mfl x r g 0 4 : Nat)] 44))
    clear hx hb
    obtain ⟨⟨_, _, _, x3, _⟩, _⟩ := five_cells HT0.out
    go_wp2_with fail
    refine bodyPost_ret (v := .tuple #[.int .i64 (mfl x r g 0 3 : Nat), .slice A0 N0 k0, .int .i64 0]) (by simp [results, Tryz.results70, go_sem]) rfl ?_
    rw [HV0.out, HB0.out, HE0.out]
    exact ⟨_, _, _, rfl, HB1.out, HX.out⟩
   ·have HE0 : Hid (m.loadE r g = 0) := Lib.hid (by rw [HE.out, if_neg HUP.out]; exact cellE_at (by rw [hc]; omega))
    have HV0 : Hid (m.loadV r g = mfl y r g 1 3) := Lib.hid (by rw [HV.out, if_pos HE0.out]; unfold cellF; rw [hc]; simp)
    have HB0 : Hid (m.loadB r g = mbl y r g 1) := Lib.hid (by rw [HB.out, if_pos HE0.out]; unfold cellB; rw [hc]; simp)
    rw [hc] at HWH
    have hce : cellE r g x y = 0 := cellE_at (by rw [hc]; omega)
    rw [hce] at HWH
    clear hc hce
    go_enter Tryz.func70, Tryz.ntmps70
    go_wp2_with fail
    refine HA.out.mono ?_
    rintro e w1 ⟨rfl, rfl⟩
    go_wp2_with fail
    refine (HWH.out _ (Ext.refl _)).mono ?_
    rintro e w2 ⟨rfl, hx⟩
    have HX := Lib.hid hx
    clear hx
    go_wp2_with fail
    refine (HM1.out _ HX.out).mono ?_
    rintro e w3 ⟨A0, N0, k0, rfl, hb, hx⟩
    have HX := Lib.hid (HX.out.trans hx)
    have HB1 := Lib.hid (hb.ext ((Ext.refl w3).alloc (.cells #[.int .i64 (mfl y r g 1 0 : Nat), .int .i64 (mfl y r g 1 1 : Nat), .int .i64 (mfl y r g 1 2 : Nat), .int .i64 (mfl y r g 1 3 : Nat), .int .i64 (mfl y r g 1 4 : Nat)] 44)))
    have HT0 := Lib.hid (heap_alloc_new w3 (.cells #[.int .i64 (mfl y r g 1 0 : Nat), .int .i64 (mfl y r g 1 1 : Nat), .int .i64 (mfl y r g 1 2 : Nat), .int .i64 (mfl y r g 1 3 : Nat), .int .i64 (mfl y r g 1 4 : Nat)] 44))
    have HX := Lib.hid (HX.out.alloc (.cells #[.int .i64 (mfl y r g 1 0 : Nat), .int .i64 (mfl y r g 1 1 : Nat), .int .i64 (mfl y r g 1 2 : Nat), .int .i64 (mfl y r g 1 3 : Nat), .int .i64 (mfl y r g 1 4 : Nat)] 44))
    clear hx hb
    obtain ⟨⟨_, _, _, x3, _⟩, _⟩ := five_cells HT0.out
    go_wp2_with fail
    refine bodyPost_ret (v := .tuple #[.int .i64 (mfl y r g 1 3 : Nat), .slice A0 N0 k0, .int .i64 0]) (by simp [results, Tryz.results70, go_sem]) rfl ?_
    rw [HV0.out, HB0.out, HE0.out]
    exact ⟨_, _, _, rfl, HB1.out, HX.out⟩
   ·have HE0 : Hid (m.loadE r g = cellE r g x y) := Lib.hid (by rw [HE.out, if_neg HUP.out])
    have HV0 : Hid (m.loadV r g = 0) := Lib.hid (by rw [HV.out]; split <;> first | rfl | (unfold cellF; rw [hc]; rfl))
    have HB0 : Hid (m.loadB r g = []) := Lib.hid (by rw [HB.out]; split <;> first | rfl | (unfold cellB; rw [hc]; rfl))
    rw [hc] at HWH
    clear hc
    generalize cellE r g x y = E at *
    go_enter Tryz.func70, Tryz.ntmps70
    go_wp2_with fail
    refine HA.out.mono ?_
    rintro e w1 ⟨rfl, rfl⟩
    go_wp2_with fail
    refine (HWH.out _ (Ext.refl _)).mono ?_
    rintro e w2 ⟨rfl, hx⟩
    have HX := Lib.hid hx
    clear hx
    go_wp2_with fail
    refine bodyPost_ret (v := .tuple #[.int .i64 0, .slice none 0 0, .int .i64 E]) (by simp [results, Tryz.results70, go_sem]) rfl ?_
    rw [HV0.out, HB0.out, HE0.out]
    exact ⟨_, _, _, rfl, By.nil_ _, HX.out⟩
end
section
open Go Go.RowKit
theorem rout_trans {d : Nat} {p p1 : Nat → Nat} {w w1 w2 : World} {m2 : DM} (hm : Mod (fun k => p k ≠ 0) w w1) (hn : ∀ k, p1 k ≠ 0 → p k ≠ 0 ∨ w.heap.size ≤ k) (k : ROut d p1 w1 m2 w2) : ROut d p w m2 w2 := by
 obtain ⟨p2, h1, h2, h3⟩ := k
 refine ⟨p2, h1, hm.trans h2 (fun i hi => hn i hi), fun i hi => ?_⟩
 rcases h3 i hi with h | h
 ·exact hn i h
 ·exact .inr (Nat.le_trans hm.size h)
set_option maxHeartbeats 800000 in
theorem rput_of {w : World} {d : Nat} {p : Nat → Nat} {m : DM} (h : RD w d p m) (a b c i t : Int) (A : Option Addr) (n cp : Nat) (body : List Nat) (hb : By w A n cp body) (hfew : m.waits.length + 1 ≤ 1000000) :
 Calls Tryz.prog 163 #[.pointer (some ⟨d, 0, none⟩), .agg #[.int .i64 a, .int .i64 b, .int .i64 c, .int .i64 i, .int .i64 t], .slice A n cp] w fun e w' => e = .returned (.int .i64 (m.putC (firstS b c) (sealL a b c i t body 1)).1) ∧ ROut d p w (m.putC (firstS b c) (sealL a b c i t body 1)).2 w' := by
 have hE := (Ext.refl w).alloc (.cells #[.int .i64 a, .int .i64 b, .int .i64 c, .int .i64 i, .int .i64 t] 44)
 have hT := heap_alloc_new w (.cells #[.int .i64 a, .int .i64 b, .int .i64 c, .int .i64 i, .int .i64 t] 44)
 have HE := Lib.hid hE
 have HT := Lib.hid hT
 have H := Lib.hid h
 have HB := Lib.hid hb
 have HSL := fun V (hx : Ext w V) => rseal_own a b c i t 1 A n cp body V (hb.ext hx)
 obtain ⟨SE, hSE⟩ : ∃ SE, sealE a b c i t n 1 = SE := ⟨_, rfl⟩
 obtain ⟨L, hLL⟩ : ∃ L, sealL a b c i t body 1 = L := ⟨_, rfl⟩
 obtain ⟨S, hS⟩ : ∃ S, firstS b c = S := ⟨_, rfl⟩
 have HS := Lib.hid hS
 rw [hLL, hSE] at HSL
 have HSL := Lib.hid HSL
 rw [hLL, hS]
 obtain ⟨R, hR⟩ : ∃ R, m.putC S L = R := ⟨_, rfl⟩
 have HRQ := Lib.hid hR
 rw [hR]
 have hwr := fun (V : World) (p1 : Nat → Nat) (hd : RD V d p1 m) (A1 : Option Addr) (k1 : Nat) (hb1 : By V A1 L.length k1 L) (ho : ¬ ∃ g o, A1 = some ⟨g, o, none⟩ ∧ p1 g ≠ 0) => rwrite_out hd S A1 L.length k1 L hb1 ho (by omega)
 obtain ⟨E, hEE⟩ : ∃ E, (m.write S L).1 = E := ⟨_, rfl⟩
 obtain ⟨m1, hm1⟩ : ∃ m1, (m.write S L).2 = m1 := ⟨_, rfl⟩
 rw [hEE, hm1] at hwr
 have HWR := Lib.hid hwr
 have HEQ : Hid (m.write S L = (E, m1)) := Lib.hid (by rw [← hEE, ← hm1])
 have HW1 : Hid (m1.waits.length ≤ 1000000) := Lib.hid (by
  have h1 : (m.write S L).2.waits.length ≤ m.waits.length + 1 := by unfold DM.write; (repeat' split) <;> simp
  rw [hm1] at h1
  omega)
 obtain ⟨⟨c0, c1, c2, c3, c4⟩, _⟩ := five_cells hT
 clear hE hT h hb hLL hS hR hSE hwr hEE hm1 hfew
 by_cases h0 : E = 0
 ·subst h0
  have HQ : Hid (R = m1.flush) := Lib.hid (by rw [← HRQ.out]; unfold DM.putC; rw [HEQ.out]; simp)
  go_enter Tryz.func163, Tryz.ntmps163
  go_wp2_with fail
  refine (HSL.out _ HE.out).mono ?_
  rintro e w1 ⟨A1, k1, rfl, hb1, hx, ho1⟩
  have HB1 := Lib.hid hb1
  have HOFF : Hid (¬ ∃ g o, A1 = some ⟨g, o, none⟩ ∧ p g ≠ 0) := Lib.hid (by
   rintro ⟨g, o, e, hp⟩
   subst e
   have h1 := (ho1.lt g rfl).1
   have h2 := H.out.2 g hp
   simp at h1
   omega)
  have HT := Lib.hid ((hx.block _ (Array.getElem?_eq_some_iff.1 HT.out).1).trans HT.out)
  have HE := Lib.hid (HE.out.trans hx)
  clear hb1 hx ho1 c0 c1 c2 c3 c4
  obtain ⟨⟨c0, c1, c2, c3, c4⟩, _⟩ := five_cells HT.out
  go_wp2_with fail
  refine (rfirst_any b c _).mono ?_
  rw [HS.out]
  rintro e w2 ⟨rfl, rfl⟩
  go_wp2_with fail
  refine (HWR.out _ p (H.out.ext HE.out) A1 k1 HB1.out HOFF.out).mono ?_
  rintro e w3 ⟨rfl, hs3⟩
  obtain ⟨p3, r3, hm3, hn3⟩ := hs3.from HE.out
  have HR3 := Lib.hid r3
  have HM3 := Lib.hid hm3
  have HN3 := Lib.hid hn3
  clear hs3 r3 hm3 hn3 c0 c1 c2 c3 c4
  go_wp2_with fail
  refine (rflush_out HR3.out HW1.out).mono ?_
  rintro e w4 ⟨rfl, hs4⟩
  have HS4 := Lib.hid (rout_trans HM3.out HN3.out hs4)
  clear hs4
  go_wp2_with fail
  go_ret
  rw [HQ.out]
  exact ⟨rfl, HS4.out⟩
 ·have hne : (E != 0) = true := by simpa using h0
  have HQ : Hid (R = (E, m1)) := Lib.hid (by rw [← HRQ.out]; unfold DM.putC; rw [HEQ.out, if_pos h0])
  clear h0
  go_enter Tryz.func163, Tryz.ntmps163
  go_wp2_with fail
  refine (HSL.out _ HE.out).mono ?_
  rintro e w1 ⟨A1, k1, rfl, hb1, hx, ho1⟩
  have HB1 := Lib.hid hb1
  have HOFF : Hid (¬ ∃ g o, A1 = some ⟨g, o, none⟩ ∧ p g ≠ 0) := Lib.hid (by
   rintro ⟨g, o, e, hp⟩
   subst e
   have h1 := (ho1.lt g rfl).1
   have h2 := H.out.2 g hp
   simp at h1
   omega)
  have HT := Lib.hid ((hx.block _ (Array.getElem?_eq_some_iff.1 HT.out).1).trans HT.out)
  have HE := Lib.hid (HE.out.trans hx)
  clear hb1 hx ho1 c0 c1 c2 c3 c4
  obtain ⟨⟨c0, c1, c2, c3, c4⟩, _⟩ := five_cells HT.out
  go_wp2_with fail
  refine (rfirst_any b c _).mono ?_
  rw [HS.out]
  rintro e w2 ⟨rfl, rfl⟩
  go_wp2_with fail
  refine (HWR.out _ p (H.out.ext HE.out) A1 k1 HB1.out HOFF.out).mono ?_
  rintro e w3 ⟨rfl, hs3⟩
  have HS3 := Lib.hid (hs3.from HE.out)
  clear hs3 c0 c1 c2 c3 c4
  go_wp2_with fail
  go_ret
  rw [HQ.out]
  exact ⟨rfl, HS3.out⟩
end
end Go.Proofs.YtmpaocpgoihliaaGreatDoor
