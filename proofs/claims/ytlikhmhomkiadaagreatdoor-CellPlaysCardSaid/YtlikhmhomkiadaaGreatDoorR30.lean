/-
  The ghost statements' Do and Same: an act at the program's disk, at the document's; both side by side.
  The document's observers over its disk: hurt, Hurt.
-/
import Derived.Test.YtlikhmhomkiadaaGreatDoorR24
import Derived.Test.YtlikhmhomkiadaaGreatDoorR26
import Derived.Test.YtlikhmhomkiadaaGreatDoorR28
import Derived.Test.YtlikhmhomkiadaaGreatDoorR29
namespace Go.Proofs.YtlikhmhomkiadaaGreatDoor
set_option maxRecDepth 100000
open Go Go.RowKit

theorem left_step {w0 w w2 v : World} {d : Nat} {F F' : Nat → Prop} {m : DM} (hF : ∀ i, F i → i < w.heap.size) (hx : Ext w w2) (h : Left w0 w2 d F' (fun i => F i ∨ w2.heap.size ≤ i) v m) : Step d F w m v :=
  ⟨h.dk.disk.more (fun i hi => (h.le i hi).imp id fun h1 => ⟨Nat.le_trans hx.size h1, h.dk.disk.lt i hi⟩) (fun i hi => hi.elim (fun h1 => Nat.lt_of_lt_of_le (hF i h1) (Nat.le_trans hx.size h.mod.size)) (fun h1 => h1.2)),
    (Mod.of_ext hx).trans h.mod fun _ hi => hi.imp id fun h1 => Nat.le_trans hx.size h1⟩
/-- What the document's calls have left behind. -/
structure RLeft (w2 : World) (d : Nat) (p p' : Nat → Nat) (v : World) (m : DM) : Prop where
  rd : RD v d p' m
  le : ∀ i, p' i ≠ 0 → p i ≠ 0 ∨ w2.heap.size ≤ i
  mod : Mod (fun i => p i ≠ 0 ∨ w2.heap.size ≤ i) w2 v
section
variable {w0 w w2 v v' : World} {d : Nat} {p p' : Nat → Nat} {m m2 : DM}
theorem RLeft.ext (h : RLeft w2 d p p' v m) (hx : Ext v v') : RLeft w2 d p p' v' m := ⟨h.rd.ext hx, h.le, h.mod.ext hx⟩
theorem RLeft.bel (h : RLeft w2 d p p' v m) (hx : Ext w0 w2) (hl : ∀ i, p i ≠ 0 → w0.heap.size ≤ i) : Ext w0 v := Below.mod hx h.mod hx.size fun i hi => hi.elim (hl i) fun h1 => Nat.le_trans hx.size h1
theorem RLeft.step (h : RLeft w2 d p p' v m) (ho : ROut d p' v m2 v') : ∃ p2, RLeft w2 d p p2 v' m2 := by
  obtain ⟨p2, h1, h2, h3⟩ := ho
  exact ⟨p2, h1, fun i hi => (h3 i hi).elim (h.le i) fun h4 => .inr (Nat.le_trans h.mod.size h4), h.mod.trans h2 fun i hi => .inl (h.le i hi)⟩
theorem RLeft.out (hx : Ext w w2) (h : RLeft w2 d p p' v m) : ROut d p w m v :=
  ⟨p', h.rd, ((Mod.of_ext hx).trans (F := fun k => p k ≠ 0) h.mod fun _ hi => hi.imp id fun h1 => Nat.le_trans hx.size h1), fun i hi => (h.le i hi).imp id fun h1 => Nat.le_trans hx.size h1⟩
end
theorem roff_piece {G : Nat → Prop} {p : Nat → Nat} {g o o' : Nat} (hp : ∀ i, p i ≠ 0 → G i) (h : Off G (some ⟨g, o, none⟩)) : ¬ ∃ g2 o2, (some ⟨g, o', none⟩ : Option Addr) = some ⟨g2, o2, none⟩ ∧ p g2 ≠ 0 := by
  rintro ⟨g2, o2, e, hg⟩
  injection e with e
  injection e with e _
  subst e
  exact h _ rfl (hp _ hg)

set_option maxRecDepth 100000 in
set_option maxHeartbeats 2400000 in
theorem do6_step {w0 w : World} {d : Nat} {F : Nat → Prop} {m : DM} (h : DK w0 w d F m) (hL : LaidT w0) (x : Act6) (hx : x.Ok w0 w0.heap.size) (hs : x.sl = true) (hfew : m.waits.length ≤ 1000) :
    Calls Tryz.prog 9 #[.pointer (some ⟨d, 0, none⟩), .agg #[.bool x.sl, .int .i64 x.ta, .int .i64 x.tb, .int .i64 x.tc, .int .i64 x.td, .int .i64 x.te, .slice x.bA x.bn x.bc, .int .u8 (x.act.kind : Int), .int .i64 x.act.sec, .int .i64 x.act.num, .slice x.act.bA x.act.bn x.act.bc, .slice x.act.kA x.act.kn x.act.kc]] w fun e w' => (∃ v, e = .returned v) ∧ Step d F w (m.act6 x) w' := by
  have hB := heap_alloc_new w (box6 x)
  have hE := (Ext.refl w).alloc (box6 x)
  have hlt : w.heap.size < (w.alloc (box6 x)).heap.size := by simp
  have HB := Lib.hid hB
  have HE := Lib.hid hE
  have H := Lib.hid h
  have HL := Lib.hid hL
  have HBY : Hid (By w x.bA x.bn x.bc x.bl) := Lib.hid ((hx.body.below h.bel).more h.bel.size)
  obtain ⟨c0, c1, c2, c3, c4, c5, c6, c7, c8, c9, c10, c11⟩ := box6_cells hB
  obtain ⟨W, hW⟩ : ∃ W, wideN x.ta x.tb x.tc x.td x.te = W := ⟨_, rfl⟩
  have hW2 := wideN_le x.ta x.tb x.tc x.td x.te
  rw [hW] at hW2
  obtain ⟨E, hEE⟩ : ∃ E, x.sE = E := ⟨_, rfl⟩
  obtain ⟨L, hLL⟩ : ∃ L, x.sL = L := ⟨_, rfl⟩
  obtain ⟨S, hS⟩ : ∃ S, firstS x.tb x.tc = S := ⟨_, rfl⟩
  have hSb : -1 ≤ S ∧ S ≤ 156 := by rw [← hS]; exact firstS_in x.tb x.tc
  have HACT : Hid (m.act6 x = if E = 0 then m.puts S L W else m) := Lib.hid (by unfold DM.act6; rw [if_pos hs, hEE, hS, hLL, hW])
  have hwd : ∀ V, Ext w0 V → Calls Tryz.prog 40 #[.agg #[.int .i64 x.ta, .int .i64 x.tb, .int .i64 x.tc, .int .i64 x.td, .int .i64 x.te]] V fun r w' => r = .returned (.int .i64 (W : Nat)) ∧ Ext V w' := fun V hV => by
    have := wide6_any x.ta x.tb x.tc x.td x.te V (hL.ext hV)
    rwa [hW] at this
  have hsl : ∀ V, Ext w V → Calls Tryz.prog 39 #[.agg #[.int .i64 x.ta, .int .i64 x.tb, .int .i64 x.tc, .int .i64 x.td, .int .i64 x.te], .slice x.bA x.bn x.bc, .int .i64 (W : Nat)] V fun r w' => ∃ A' c', r = .returned (.tuple #[.slice A' L.length c', .int .i64 E]) ∧ By w' A' L.length c' L ∧ Ext V w' ∧ w'.ownsRow V.heap.size 5 1 (.slice A' L.length c') L.length (vb L) := fun V hV => by
    have := rseal_own x.ta x.tb x.tc x.td x.te (W : Nat) x.bA x.bn x.bc x.bl V (HBY.out.ext hV)
    unfold Act6.sE Act6.sL at *
    rw [hW] at hEE hLL
    rwa [hEE, hLL] at this
  have hlen : E = 0 → L.length = 64 * W ∧ 1 ≤ W := fun h0 => by
    have hbl : x.bl.length = x.bn := hx.body.len
    unfold Act6.sE at hEE
    unfold Act6.sL at hLL
    rw [hW] at hEE hLL
    rw [← hLL]
    have := (sealL_len (a := x.ta) (b := x.tb) (c := x.tc) (d := x.td) (e := x.te) (body := x.bl) (s := (W : Nat)) (by rw [hbl, hEE]; exact h0))
    rw [this.1, Int.toNat_natCast]
    exact ⟨rfl, by omega⟩
  have hfst : ∀ V, Ext w0 V → Calls Tryz.prog 42 #[.int .i64 x.tb, .int .i64 x.tc] V fun r w' => r = .returned (.int .i64 S) ∧ Ext V w' := fun V hV => by
    have := first_any x.tb x.tc V (hL.ext hV)
    rwa [hS] at this
  have HWD := Lib.hid hwd
  have HSL := Lib.hid hsl
  have HLEN := Lib.hid hlen
  rw [hs] at c0 ⊢
  have hBX : box6 x = .cells #[.bool true, .int .i64 x.ta, .int .i64 x.tb, .int .i64 x.tc, .int .i64 x.td, .int .i64 x.te, .slice x.bA x.bn x.bc, .int .u8 (x.act.kind : Int), .int .i64 x.act.sec, .int .i64 x.act.num, .slice x.act.bA x.act.bn x.act.bc, .slice x.act.kA x.act.kn x.act.kc] 39 := by unfold box6; rw [hs]
  rw [hBX] at hE c0 c1 c2 c3 c4 c5 c6 c7 c8 c9 c10 c11
  have HEX : Hid (Ext w (w.alloc (.cells #[.bool true, .int .i64 x.ta, .int .i64 x.tb, .int .i64 x.tc, .int .i64 x.td, .int .i64 x.te, .slice x.bA x.bn x.bc, .int .u8 (x.act.kind : Int), .int .i64 x.act.sec, .int .i64 x.act.num, .slice x.act.bA x.act.bn x.act.bc, .slice x.act.kA x.act.kn x.act.kc] 39)).drew) := Lib.hid hE.drew
  have HS := Lib.hid hfst
  have HEX0 := Lib.hid (h.bel.trans HEX.out)
  rw [hBX] at HB hlt
  clear h hL hx hEE hLL hS hW hwd hsl hlen hfst HBY hB hE HE
  go_enter Tryz.func9, Tryz.ntmps9
  go_wp2_with fail
  have hk1 : Hid (Ext (w.alloc (.cells #[.bool true, .int .i64 x.ta, .int .i64 x.tb, .int .i64 x.tc, .int .i64 x.td, .int .i64 x.te, .slice x.bA x.bn x.bc, .int .u8 (x.act.kind : Int), .int .i64 x.act.sec, .int .i64 x.act.num, .slice x.act.bA x.act.bn x.act.bc, .slice x.act.kA x.act.kn x.act.kc] 39)).drew (w.alloc (.cells #[.bool true, .int .i64 x.ta, .int .i64 x.tb, .int .i64 x.tc, .int .i64 x.td, .int .i64 x.te, .slice x.bA x.bn x.bc, .int .u8 (x.act.kind : Int), .int .i64 x.act.sec, .int .i64 x.act.num, .slice x.act.bA x.act.bn x.act.bc, .slice x.act.kA x.act.kn x.act.kc] 39)).drew) := Lib.hid (Ext.refl _)
  go_region_held3 (fun w' => w'.cell? ⟨w.heap.size, 1, none⟩ = some (.int .i64 x.ta) ∧ w'.cell? ⟨w.heap.size, 2, none⟩ = some (.int .i64 x.tb) ∧ w'.cell? ⟨w.heap.size, 3, none⟩ = some (.int .i64 x.tc) ∧ w'.cell? ⟨w.heap.size, 4, none⟩ = some (.int .i64 x.td) ∧ w'.cell? ⟨w.heap.size, 5, none⟩ = some (.int .i64 x.te) ∧ w'.cell? ⟨w.heap.size, 6, none⟩ = some (.slice x.bA x.bn x.bc))
    (first | exact keep_box (by assumption) rfl HB)
    (first
      | (go_at_call 40; ((with_reducible refine (HWD.out _ HEX0.out).mono ?_); rintro e w1 ⟨rfl, hx⟩; have HK1 := Lib.hid hx; have HE1 : Hid (Ext w w1) := Lib.hid (HEX.out.trans hx); clear hx))
      | (go_at_call 39; ((with_reducible refine (HSL.out _ HE1.out).mono ?_); rintro e w2 ⟨A, c, rfl, hb, hx, ho⟩; have HK2 := Lib.hid (HK1.out.trans hx); have HE2 : Hid (Ext w w2) := Lib.hid (HE1.out.trans hx); have HBL := Lib.hid hb; have HOW := Lib.hid ho; clear hx hb ho)))
  have HB2 : Hid (w2.heap[w.heap.size]? = _) := Lib.hid ((HK2.out.block _ hlt).trans HB.out)
  have H2 := Lib.hid (H.out.ext HE2.out)
  have hsz1 := HE1.out.size
  have hsz2 : w.heap.size < w2.heap.size := (Array.getElem?_eq_some_iff.1 HB2.out).1
  clear HB HWD HSL hk1 HK1 HK2 HEX HEX0 hlt c0 c1 c2 c3 c4 c5 c6 c7 c8 c9 c10 c11
  by_cases h0 : E = 0
  · have HACT : Hid (m.act6 x = m.puts S L W) := Lib.hid (by rw [HACT.out, if_pos h0])
    subst h0
    obtain ⟨hl, hw1⟩ := HLEN.out rfl
    obtain ⟨g, o, z, rfl, hg2, _⟩ := HBL.out.rd.at_ (k := 0) (by omega)
    have hg1 : w1.heap.size ≤ g := (HOW.out.lt g rfl).1
    have hoff : Off (fun i => F i ∨ w2.heap.size ≤ i) (some ⟨g, o, none⟩) := fun p hp hh => by
      injection hp with hp
      subst hp
      rcases hh with hh | hh
      · exact absurd (H.out.disk.lt _ hh) (by show ¬ g < _; omega)
      · exact absurd hh (by show ¬ _ ≤ g; omega)
    have hGB : ¬ (fun i => F i ∨ w2.heap.size ≤ i) w.heap.size := fun hh => hh.elim (fun h1 => absurd (H.out.disk.lt _ h1) (by omega)) (fun h1 => absurd h1 (by omega))
    have HOFF := Lib.hid hoff
    have HGB := Lib.hid hGB
    have hcap := HBL.out.cap
    have hdiv : (64 * (W : Int)).tdiv 64 = (W : Int) := by rw [Int.tdiv_eq_ediv_of_nonneg (by omega)]; omega
    have hdiv2 : (64 * (W : Int)) / 64 = (W : Int) := by omega
    rw [hl] at HBL HOW hcap
    rw [hl]
    have HBL := Lib.hid HBL.out
    clear hoff hGB HOW hl
    go_wp2_with fail
    go_loopw [6] (fun i wr => ∃ (k : Nat) (F' : Nat → Prop), k ≤ W ∧ i = .int .i64 k ∧ Hid (Left w0 w2 d F' (fun i => F i ∨ w2.heap.size ≤ i) wr (m.puts S L k))) (fun i _ => W - (intOf i).toNat)
    case atStart => exact ⟨0, F, Nat.zero_le _, rfl, Lib.hid ⟨H2.out, fun i hi => .inl hi, Mod.refl _ _⟩⟩
    case round =>
      obtain ⟨k, F', hk, rfl, HLF⟩ := hrel
      by_cases hlt : k < W
      · have hkk : 64 * k + 64 ≤ 64 * W := by omega
        have hcut : ∀ V : World, (Instr.slice 34 (.slice (some ⟨g, o, none⟩) (64 * W) c) (some (.int .i64 (64 * (k : Int)))) (some (.int .i64 (64 * (k : Int) + 64))) none).run Tryz.prog V = .ok (.slice (some ⟨g, o + 64 * k, none⟩) 64 (c - 64 * k)) V := fun V => by
          have := cut_mid g o (64 * W) c (64 * k) (64 * k + 64) (by omega) (by omega) (by omega) V
          rw [show 64 * k + 64 - 64 * k = 64 by omega] at this
          rw [show (64 * (k : Int)) = ((64 * k : Nat) : Int) by omega, show (((64 * k : Nat) : Int) + 64) = ((64 * k + 64 : Nat) : Int) by omega]
          exact this
        have q1 : IntKind.i64.wrap (64 * (k : Int)) = 64 * (k : Int) := IntWalk.i64_in _ (by omega)
        have q2 : IntKind.i64.wrap (64 * (k : Int) + 64) = 64 * (k : Int) + 64 := IntWalk.i64_in _ (by omega)
        have q3 : IntKind.i64.wrap (S + (k : Int)) = S + (k : Int) := IntWalk.i64_in _ (by omega)
        have HDa := Lib.hid (HLF.out.ext (Ext.refl wr).drew)
        have HMa := Lib.hid HDa.out.mod
        have HWa := Lib.hid HDa.out.dk.bel
        have HFW : Hid ((m.puts S L k).waits.length ≤ 1000000) := Lib.hid (by have := puts_waits m S L k; omega)
        have hnext : m.puts S L (k + 1) = ((m.puts S L k).write (S + (k : Int)) ((L.drop (64 * k)).take 64)).2 := rfl
        have HNX := Lib.hid hnext
        have HKK := Lib.hid hkk
        clear hnext
        go_wp2_with fail
        go_region_held3 (fun w' => w'.cell? ⟨w.heap.size, 2, none⟩ = some (.int .i64 x.tb) ∧ w'.cell? ⟨w.heap.size, 3, none⟩ = some (.int .i64 x.tc))
          (first | exact keep_two2 (by assumption) HGB HB2)
          (first
            | (go_at_call 42; ((with_reducible refine (HS.out _ HWa.out).mono ?_); rintro e wv ⟨rfl, hx⟩; have HDb := Lib.hid (HDa.out.ext hx); have HMb := Lib.hid HDb.out.mod; clear hx))
            | (go_at_call 41; ((with_reducible refine (write_pd HDb.out.dk.disk (S + (k : Int)) (some ⟨g, o + 64 * k, none⟩) 64 (c - 64 * k) _ ((HBL.out.mod HMb.out HOFF.out).piece (64 * k) HKK.out) (off_piece HDb.out.le HOFF.out) HFW.out).mono ?_); unfold Outc; rintro e wz ⟨rfl, hp, hm⟩; have HDc := Lib.hid (HDb.out.step (fun i hi => .inr (Nat.le_trans HMb.out.size hi)) hp hm); have HMc := Lib.hid HDc.out.mod; clear hp hm)))
        go_wp2_with fail
        go_roundw
        case rel => exact ⟨k + 1, _, by omega, by go_num, by rw [HNX.out]; exact HDc⟩
        case measure => simp [intOf]; omega
      · obtain rfl : k = W := by omega
        go_wp2_with fail
        go_end0
        exact ⟨⟨_, rfl⟩, by rw [HACT.out]; exact left_step H.out.disk.lt HE2.out HLF.out⟩
  · have hne : (E == 0) = false := by simpa using h0
    have HACT : Hid (m.act6 x = m) := Lib.hid (by rw [HACT.out, if_neg h0])
    clear HLEN h0
    go_wp2_with fail
    go_loopw [6] (fun i wr => i = .int .i64 0 ∧ wr = w2) (fun _ _ => 0)
    case atStart => exact ⟨rfl, rfl⟩
    case round =>
      obtain ⟨rfl, rfl⟩ := hrel
      go_wp2_with fail
      go_end0
      exact ⟨⟨_, rfl⟩, by rw [HACT.out]; exact Step.of_ext H.out.disk HE2.out⟩

set_option maxRecDepth 100000 in
set_option maxHeartbeats 2400000 in
theorem same6_yes {w0 w : World} {d : Nat} {p : Nat → Nat} {m : DM} (h : RD w d p m) (hbel : Ext w0 w) (hlow : ∀ i, p i ≠ 0 → w0.heap.size ≤ i) (hL : LaidT w0) (x : Act6) (hx : x.Ok w0 w0.heap.size) (hs : x.sl = true) (hfew : m.waits.length ≤ 1000) :
    Calls Tryz.prog 10 #[.pointer (some ⟨d, 0, none⟩), .agg #[.bool x.sl, .int .i64 x.ta, .int .i64 x.tb, .int .i64 x.tc, .int .i64 x.td, .int .i64 x.te, .slice x.bA x.bn x.bc, .int .u8 (x.act.kind : Int), .int .i64 x.act.sec, .int .i64 x.act.num, .slice x.act.bA x.act.bn x.act.bc, .slice x.act.kA x.act.kn x.act.kc]] w fun e w' => (∃ v, e = .returned v) ∧ ROut d p w (m.act6 x) w' := by
  have hB := heap_alloc_new w (box6 x)
  have hE := (Ext.refl w).alloc (box6 x)
  have hlt : w.heap.size < (w.alloc (box6 x)).heap.size := by simp
  have HB := Lib.hid hB
  have HE := Lib.hid hE
  have H := Lib.hid h
  have HL := Lib.hid hL
  have HBY : Hid (By w x.bA x.bn x.bc x.bl) := Lib.hid ((hx.body.below hbel).more hbel.size)
  obtain ⟨c0, c1, c2, c3, c4, c5, c6, c7, c8, c9, c10, c11⟩ := box6_cells hB
  obtain ⟨W, hW⟩ : ∃ W, wideN x.ta x.tb x.tc x.td x.te = W := ⟨_, rfl⟩
  have hW2 := wideN_le x.ta x.tb x.tc x.td x.te
  rw [hW] at hW2
  obtain ⟨E, hEE⟩ : ∃ E, x.sE = E := ⟨_, rfl⟩
  obtain ⟨L, hLL⟩ : ∃ L, x.sL = L := ⟨_, rfl⟩
  obtain ⟨S, hS⟩ : ∃ S, firstS x.tb x.tc = S := ⟨_, rfl⟩
  have hSb : -1 ≤ S ∧ S ≤ 156 := by rw [← hS]; exact firstS_in x.tb x.tc
  have HACT : Hid (m.act6 x = if E = 0 then m.puts S L W else m) := Lib.hid (by unfold DM.act6; rw [if_pos hs, hEE, hS, hLL, hW])
  have hwd : ∀ V, Ext w0 V → Calls Tryz.prog 40 #[.agg #[.int .i64 x.ta, .int .i64 x.tb, .int .i64 x.tc, .int .i64 x.td, .int .i64 x.te]] V fun r w' => r = .returned (.int .i64 (W : Nat)) ∧ Ext V w' := fun V hV => by
    have := wide6_any x.ta x.tb x.tc x.td x.te V (hL.ext hV)
    rwa [hW] at this
  have hsl : ∀ V, Ext w V → Calls Tryz.prog 39 #[.agg #[.int .i64 x.ta, .int .i64 x.tb, .int .i64 x.tc, .int .i64 x.td, .int .i64 x.te], .slice x.bA x.bn x.bc, .int .i64 (W : Nat)] V fun r w' => ∃ A' c', r = .returned (.tuple #[.slice A' L.length c', .int .i64 E]) ∧ By w' A' L.length c' L ∧ Ext V w' ∧ w'.ownsRow V.heap.size 5 1 (.slice A' L.length c') L.length (vb L) := fun V hV => by
    have := rseal_own x.ta x.tb x.tc x.td x.te (W : Nat) x.bA x.bn x.bc x.bl V (HBY.out.ext hV)
    unfold Act6.sE Act6.sL at *
    rw [hW] at hEE hLL
    rwa [hEE, hLL] at this
  have hlen : E = 0 → L.length = 64 * W ∧ 1 ≤ W := fun h0 => by
    have hbl : x.bl.length = x.bn := hx.body.len
    unfold Act6.sE at hEE
    unfold Act6.sL at hLL
    rw [hW] at hEE hLL
    rw [← hLL]
    have := (sealL_len (a := x.ta) (b := x.tb) (c := x.tc) (d := x.td) (e := x.te) (body := x.bl) (s := (W : Nat)) (by rw [hbl, hEE]; exact h0))
    rw [this.1, Int.toNat_natCast]
    exact ⟨rfl, by omega⟩
  have hfst : ∀ V, Ext w0 V → Calls Tryz.prog 42 #[.int .i64 x.tb, .int .i64 x.tc] V fun r w' => r = .returned (.int .i64 S) ∧ Ext V w' := fun V hV => by
    have := first_any x.tb x.tc V (hL.ext hV)
    rwa [hS] at this
  have HWD := Lib.hid hwd
  have HSL := Lib.hid hsl
  have HLEN := Lib.hid hlen
  rw [hs] at c0 ⊢
  have hBX : box6 x = .cells #[.bool true, .int .i64 x.ta, .int .i64 x.tb, .int .i64 x.tc, .int .i64 x.td, .int .i64 x.te, .slice x.bA x.bn x.bc, .int .u8 (x.act.kind : Int), .int .i64 x.act.sec, .int .i64 x.act.num, .slice x.act.bA x.act.bn x.act.bc, .slice x.act.kA x.act.kn x.act.kc] 39 := by unfold box6; rw [hs]
  rw [hBX] at hE c0 c1 c2 c3 c4 c5 c6 c7 c8 c9 c10 c11
  have HEX : Hid (Ext w (w.alloc (.cells #[.bool true, .int .i64 x.ta, .int .i64 x.tb, .int .i64 x.tc, .int .i64 x.td, .int .i64 x.te, .slice x.bA x.bn x.bc, .int .u8 (x.act.kind : Int), .int .i64 x.act.sec, .int .i64 x.act.num, .slice x.act.bA x.act.bn x.act.bc, .slice x.act.kA x.act.kn x.act.kc] 39)).drew) := Lib.hid hE.drew
  have HS := Lib.hid hfst
  have HEX0 := Lib.hid (hbel.trans HEX.out)
  have HBEL := Lib.hid hbel
  have HLOW := Lib.hid hlow
  rw [hBX] at HB hlt
  clear h hL hbel hlow hx hEE hLL hS hW hwd hsl hlen hfst HBY hB hE HE
  go_enter Tryz.func10, Tryz.ntmps10
  go_wp2_with fail
  have hk1 : Hid (Ext (w.alloc (.cells #[.bool true, .int .i64 x.ta, .int .i64 x.tb, .int .i64 x.tc, .int .i64 x.td, .int .i64 x.te, .slice x.bA x.bn x.bc, .int .u8 (x.act.kind : Int), .int .i64 x.act.sec, .int .i64 x.act.num, .slice x.act.bA x.act.bn x.act.bc, .slice x.act.kA x.act.kn x.act.kc] 39)).drew (w.alloc (.cells #[.bool true, .int .i64 x.ta, .int .i64 x.tb, .int .i64 x.tc, .int .i64 x.td, .int .i64 x.te, .slice x.bA x.bn x.bc, .int .u8 (x.act.kind : Int), .int .i64 x.act.sec, .int .i64 x.act.num, .slice x.act.bA x.act.bn x.act.bc, .slice x.act.kA x.act.kn x.act.kc] 39)).drew) := Lib.hid (Ext.refl _)
  go_region_held3 (fun w' => w'.cell? ⟨w.heap.size, 1, none⟩ = some (.int .i64 x.ta) ∧ w'.cell? ⟨w.heap.size, 2, none⟩ = some (.int .i64 x.tb) ∧ w'.cell? ⟨w.heap.size, 3, none⟩ = some (.int .i64 x.tc) ∧ w'.cell? ⟨w.heap.size, 4, none⟩ = some (.int .i64 x.td) ∧ w'.cell? ⟨w.heap.size, 5, none⟩ = some (.int .i64 x.te) ∧ w'.cell? ⟨w.heap.size, 6, none⟩ = some (.slice x.bA x.bn x.bc))
    (first | exact keep_box (by assumption) rfl HB)
    (first
      | (go_at_call 40; ((with_reducible refine (HWD.out _ HEX0.out).mono ?_); rintro e w1 ⟨rfl, hx⟩; have HK1 := Lib.hid hx; have HE1 : Hid (Ext w w1) := Lib.hid (HEX.out.trans hx); clear hx))
      | (go_at_call 39; ((with_reducible refine (HSL.out _ HE1.out).mono ?_); rintro e w2 ⟨A, c, rfl, hb, hx, ho⟩; have HK2 := Lib.hid (HK1.out.trans hx); have HE2 : Hid (Ext w w2) := Lib.hid (HE1.out.trans hx); have HBL := Lib.hid hb; have HOW := Lib.hid ho; clear hx hb ho)))
  have HB2 : Hid (w2.heap[w.heap.size]? = _) := Lib.hid ((HK2.out.block _ hlt).trans HB.out)
  have H2 := Lib.hid (H.out.ext HE2.out)
  have hsz1 := HE1.out.size
  have hsz2 : w.heap.size < w2.heap.size := (Array.getElem?_eq_some_iff.1 HB2.out).1
  clear HB HWD HSL hk1 HK1 HK2 HEX HEX0 hlt c0 c1 c2 c3 c4 c5 c6 c7 c8 c9 c10 c11
  by_cases h0 : E = 0
  · have HACT : Hid (m.act6 x = m.puts S L W) := Lib.hid (by rw [HACT.out, if_pos h0])
    subst h0
    obtain ⟨hl, hw1⟩ := HLEN.out rfl
    obtain ⟨g, o, z, rfl, hg2, _⟩ := HBL.out.rd.at_ (k := 0) (by omega)
    have hg1 : w1.heap.size ≤ g := (HOW.out.lt g rfl).1
    have hoff : Off (fun i => p i ≠ 0 ∨ w2.heap.size ≤ i) (some ⟨g, o, none⟩) := fun q hq hh => by
      injection hq with hq
      subst hq
      rcases hh with hh | hh
      · exact absurd (H.out.2 _ hh) (by show ¬ g < _; omega)
      · exact absurd hh (by show ¬ _ ≤ g; omega)
    have hGB : ¬ (fun i => p i ≠ 0 ∨ w2.heap.size ≤ i) w.heap.size := fun hh => hh.elim (fun h1 => absurd (H.out.2 _ h1) (by omega)) (fun h1 => absurd h1 (by omega))
    have HOFF := Lib.hid hoff
    have HGB := Lib.hid hGB
    have hcap := HBL.out.cap
    have hdiv : (64 * (W : Int)).tdiv 64 = (W : Int) := by rw [Int.tdiv_eq_ediv_of_nonneg (by omega)]; omega
    have hdiv2 : (64 * (W : Int)) / 64 = (W : Int) := by omega
    rw [hl] at HBL HOW hcap
    rw [hl]
    have HBL := Lib.hid HBL.out
    clear hoff hGB HOW hl
    go_wp2_with fail
    go_loopw [6] (fun i wr => ∃ (k : Nat) (p' : Nat → Nat), k ≤ W ∧ i = .int .i64 k ∧ Hid (RLeft w2 d p p' wr (m.puts S L k))) (fun i _ => W - (intOf i).toNat)
    case atStart => exact ⟨0, p, Nat.zero_le _, rfl, Lib.hid ⟨H2.out, fun i hi => .inl hi, Mod.refl _ _⟩⟩
    case round =>
      obtain ⟨k, p', hk, rfl, HLF⟩ := hrel
      by_cases hlt : k < W
      · have hkk : 64 * k + 64 ≤ 64 * W := by omega
        have hcut : ∀ V : World, (Instr.slice 34 (.slice (some ⟨g, o, none⟩) (64 * W) c) (some (.int .i64 (64 * (k : Int)))) (some (.int .i64 (64 * (k : Int) + 64))) none).run Tryz.prog V = .ok (.slice (some ⟨g, o + 64 * k, none⟩) 64 (c - 64 * k)) V := fun V => by
          have := cut_mid g o (64 * W) c (64 * k) (64 * k + 64) (by omega) (by omega) (by omega) V
          rw [show 64 * k + 64 - 64 * k = 64 by omega] at this
          rw [show (64 * (k : Int)) = ((64 * k : Nat) : Int) by omega, show (((64 * k : Nat) : Int) + 64) = ((64 * k + 64 : Nat) : Int) by omega]
          exact this
        have q1 : IntKind.i64.wrap (64 * (k : Int)) = 64 * (k : Int) := IntWalk.i64_in _ (by omega)
        have q2 : IntKind.i64.wrap (64 * (k : Int) + 64) = 64 * (k : Int) + 64 := IntWalk.i64_in _ (by omega)
        have q3 : IntKind.i64.wrap (S + (k : Int)) = S + (k : Int) := IntWalk.i64_in _ (by omega)
        have HDa := Lib.hid (HLF.out.ext (Ext.refl wr).drew)
        have HMa := Lib.hid HDa.out.mod
        have HWa := Lib.hid (HDa.out.bel (HBEL.out.trans HE2.out) HLOW.out)
        have HFW : Hid ((m.puts S L k).waits.length ≤ 1000000) := Lib.hid (by have := puts_waits m S L k; omega)
        have hnext : m.puts S L (k + 1) = ((m.puts S L k).write (S + (k : Int)) ((L.drop (64 * k)).take 64)).2 := rfl
        have HNX := Lib.hid hnext
        have HKK := Lib.hid hkk
        clear hnext
        go_wp2_with fail
        go_region_held3 (fun w' => w'.cell? ⟨w.heap.size, 2, none⟩ = some (.int .i64 x.tb) ∧ w'.cell? ⟨w.heap.size, 3, none⟩ = some (.int .i64 x.tc))
          (first | exact keep_two2 (by assumption) HGB HB2)
          (first
            | (go_at_call 42; ((with_reducible refine (HS.out _ HWa.out).mono ?_); rintro e wv ⟨rfl, hx⟩; have HDb := Lib.hid (HDa.out.ext hx); have HMb := Lib.hid HDb.out.mod; clear hx))
            | (go_at_call 44; ((with_reducible refine (rwrite_out HDb.out.rd (S + (k : Int)) (some ⟨g, o + 64 * k, none⟩) 64 (c - 64 * k) _ ((HBL.out.mod HMb.out HOFF.out).piece (64 * k) HKK.out) (roff_piece HDb.out.le HOFF.out) HFW.out).mono ?_); rintro e wz ⟨rfl, ho⟩; obtain ⟨p2, hl2⟩ := HDb.out.step ho; have HDc := Lib.hid hl2; have HMc := Lib.hid HDc.out.mod; clear ho hl2)))
        go_wp2_with fail
        go_roundw
        case rel => exact ⟨k + 1, _, by omega, by go_num, by rw [HNX.out]; exact HDc⟩
        case measure => simp [intOf]; omega
      · obtain rfl : k = W := by omega
        go_wp2_with fail
        go_end0
        exact ⟨⟨_, rfl⟩, by rw [HACT.out]; exact RLeft.out HE2.out HLF.out⟩
  · have hne : (E == 0) = false := by simpa using h0
    have HACT : Hid (m.act6 x = m) := Lib.hid (by rw [HACT.out, if_neg h0])
    clear HLEN h0
    go_wp2_with fail
    go_loopw [6] (fun i wr => i = .int .i64 0 ∧ wr = w2) (fun _ _ => 0)
    case atStart => exact ⟨rfl, rfl⟩
    case round =>
      obtain ⟨rfl, rfl⟩ := hrel
      go_wp2_with fail
      go_end0
      exact ⟨⟨_, rfl⟩, by rw [HACT.out]; exact RLeft.out HE2.out ⟨H2.out, fun i hi => .inl hi, Mod.refl _ _⟩⟩

set_option maxRecDepth 100000 in
set_option maxHeartbeats 1600000 in
theorem both_do_no {w0 w : World} {d r : Nat} {F : Nat → Prop} {p : Nat → Nat} {m m' : DM} (h : Both w0 w d r F p m m') (x : Act6) (hx : x.Ok w0 w0.heap.size) (hs : x.sl = false) (hn : x.act.bn ≤ 200) (hfew : m.waits.length ≤ 1000) :
    Calls Tryz.prog 9 #[.pointer (some ⟨d, 0, none⟩), .agg #[.bool x.sl, .int .i64 x.ta, .int .i64 x.tb, .int .i64 x.tc, .int .i64 x.td, .int .i64 x.te, .slice x.bA x.bn x.bc, .int .u8 (x.act.kind : Int), .int .i64 x.act.sec, .int .i64 x.act.num, .slice x.act.bA x.act.bn x.act.bc, .slice x.act.kA x.act.kn x.act.kc]] w fun e w' => (∃ v, e = .returned v) ∧ ∃ F', Both w0 w' d r F' p (m.act6 x) m' := by
  have hE := (Ext.refl w).alloc (box6 x)
  have hB := heap_alloc_new w (box6 x)
  obtain ⟨E, mz, hq⟩ : ∃ E mz, m.act x.act.kind x.act.sec x.act.num x.act.bl x.act.kl = (E, mz) := ⟨(m.act x.act.kind x.act.sec x.act.num x.act.bl x.act.kl).1, (m.act x.act.kind x.act.sec x.act.num x.act.bl x.act.kl).2, rfl⟩
  have hd := (h.ext hE).do_ x.act hx.act hn hfew hq
  have HACT : Hid (m.act6 x = mz) := Lib.hid (by unfold DM.act6; rw [if_neg (by rw [hs]; simp), hq])
  obtain ⟨c0, _, _, _, _, _, _, c7, c8, c9, c10, c11⟩ := box6_cells hB
  rw [hs] at c0 ⊢
  have hBX : box6 x = .cells #[.bool false, .int .i64 x.ta, .int .i64 x.tb, .int .i64 x.tc, .int .i64 x.td, .int .i64 x.te, .slice x.bA x.bn x.bc, .int .u8 (x.act.kind : Int), .int .i64 x.act.sec, .int .i64 x.act.num, .slice x.act.bA x.act.bn x.act.bc, .slice x.act.kA x.act.kn x.act.kc] 39 := by unfold box6; rw [hs]
  rw [hBX] at c0 c7 c8 c9 c10 c11 hd
  have HD := Lib.hid hd
  clear hq
  clear h hx hd hE hB hBX
  go_enter Tryz.func9, Tryz.ntmps9
  go_wp2_with fail
  refine HD.out.mono ?_
  rintro e w1 ⟨rfl, F1, hk⟩
  have HK := Lib.hid hk
  clear hk
  go_wp2_with fail
  refine bodyPost_ret (results_none rfl _ _ _) rfl ?_
  exact ⟨⟨_, rfl⟩, _, by rw [HACT.out]; exact HK.out⟩
set_option maxRecDepth 100000 in
set_option maxHeartbeats 1600000 in
theorem both_same_no {w0 w : World} {d r : Nat} {F : Nat → Prop} {p : Nat → Nat} {m' m : DM} (h : Both w0 w d r F p m' m) (x : Act6) (hx : x.Ok w0 w0.heap.size) (hs : x.sl = false) (hn : x.act.bn ≤ 200) (hfew : m.waits.length ≤ 1000) :
    Calls Tryz.prog 10 #[.pointer (some ⟨r, 0, none⟩), .agg #[.bool x.sl, .int .i64 x.ta, .int .i64 x.tb, .int .i64 x.tc, .int .i64 x.td, .int .i64 x.te, .slice x.bA x.bn x.bc, .int .u8 (x.act.kind : Int), .int .i64 x.act.sec, .int .i64 x.act.num, .slice x.act.bA x.act.bn x.act.bc, .slice x.act.kA x.act.kn x.act.kc]] w fun e w' => (∃ v, e = .returned v) ∧ ∃ p', Both w0 w' d r F p' m' (m.act6 x) := by
  have hE := (Ext.refl w).alloc (box6 x)
  have hB := heap_alloc_new w (box6 x)
  obtain ⟨E, mz, hq⟩ : ∃ E mz, m.act x.act.kind x.act.sec x.act.num x.act.bl x.act.kl = (E, mz) := ⟨(m.act x.act.kind x.act.sec x.act.num x.act.bl x.act.kl).1, (m.act x.act.kind x.act.sec x.act.num x.act.bl x.act.kl).2, rfl⟩
  have hd := (h.ext hE).same_ x.act hx.act hn hfew hq
  have HACT : Hid (m.act6 x = mz) := Lib.hid (by unfold DM.act6; rw [if_neg (by rw [hs]; simp), hq])
  obtain ⟨c0, _, _, _, _, _, _, c7, c8, c9, c10, c11⟩ := box6_cells hB
  rw [hs] at c0 ⊢
  have hBX : box6 x = .cells #[.bool false, .int .i64 x.ta, .int .i64 x.tb, .int .i64 x.tc, .int .i64 x.td, .int .i64 x.te, .slice x.bA x.bn x.bc, .int .u8 (x.act.kind : Int), .int .i64 x.act.sec, .int .i64 x.act.num, .slice x.act.bA x.act.bn x.act.bc, .slice x.act.kA x.act.kn x.act.kc] 39 := by unfold box6; rw [hs]
  rw [hBX] at c0 c7 c8 c9 c10 c11 hd
  have HD := Lib.hid hd
  clear hq
  clear h hx hd hE hB hBX
  go_enter Tryz.func10, Tryz.ntmps10
  go_wp2_with fail
  refine HD.out.mono ?_
  rintro e w1 ⟨rfl, p1, hk⟩
  have HK := Lib.hid hk
  clear hk
  go_wp2_with fail
  refine bodyPost_ret (results_none rfl _ _ _) rfl ?_
  exact ⟨⟨_, rfl⟩, _, by rw [HACT.out]; exact HK.out⟩
theorem Both.of_step {w0 w w' : World} {d r : Nat} {F : Nat → Prop} {p : Nat → Nat} {m m' m2 : DM} (h : Both w0 w d r F p m m') (k : Step d F w m2 w') : Both w0 w' d r (grow F w w') p m2 m' :=
  ⟨h.dk.step k.1 k.2, h.rd.mod k.2 h.apart, h.low, fun i hi hg => hg.elim (h.apart i hi) (fun hh => by have := h.rd.2 i hi; omega)⟩
theorem Both.of_out {w0 w w' : World} {d r : Nat} {F : Nat → Prop} {p : Nat → Nat} {m m' m2 : DM} (h : Both w0 w d r F p m m') (k : ROut r p w m2 w') : ∃ p', Both w0 w' d r F p' m m2 := by
  obtain ⟨p', h1, h2, h3⟩ := k
  refine ⟨p', h.dk.mod h2 (fun i hf hp => h.apart i hp hf) h.low, h1, fun i hi => (h3 i hi).elim (h.low i) fun h5 => Nat.le_trans h.dk.bel.size h5, fun i hi hf => (h3 i hi).elim (fun h5 => h.apart i h5 hf) fun h5 => ?_⟩
  have := h.dk.disk.lt i hf
  omega
theorem Both.do6 {w0 w : World} {d r : Nat} {F : Nat → Prop} {p : Nat → Nat} {m m' : DM} (h : Both w0 w d r F p m m') (hL : LaidT w0) (x : Act6) (hx : x.Ok w0 w0.heap.size) (hn : x.act.bn ≤ 200) (hfew : m.waits.length ≤ 1000) :
    Calls Tryz.prog 9 #[.pointer (some ⟨d, 0, none⟩), .agg #[.bool x.sl, .int .i64 x.ta, .int .i64 x.tb, .int .i64 x.tc, .int .i64 x.td, .int .i64 x.te, .slice x.bA x.bn x.bc, .int .u8 (x.act.kind : Int), .int .i64 x.act.sec, .int .i64 x.act.num, .slice x.act.bA x.act.bn x.act.bc, .slice x.act.kA x.act.kn x.act.kc]] w fun e w' => (∃ v, e = .returned v) ∧ ∃ F', Both w0 w' d r F' p (m.act6 x) m' := by
  by_cases hs : x.sl = true
  · exact (do6_step h.dk hL x hx hs hfew).mono fun _ _ ⟨h1, h2⟩ => ⟨h1, _, h.of_step h2⟩
  · exact both_do_no h x hx (by simpa using hs) hn hfew
theorem Both.same6 {w0 w : World} {d r : Nat} {F : Nat → Prop} {p : Nat → Nat} {m m' : DM} (h : Both w0 w d r F p m m') (hL : LaidT w0) (x : Act6) (hx : x.Ok w0 w0.heap.size) (hn : x.act.bn ≤ 200) (hfew : m'.waits.length ≤ 1000) :
    Calls Tryz.prog 10 #[.pointer (some ⟨r, 0, none⟩), .agg #[.bool x.sl, .int .i64 x.ta, .int .i64 x.tb, .int .i64 x.tc, .int .i64 x.td, .int .i64 x.te, .slice x.bA x.bn x.bc, .int .u8 (x.act.kind : Int), .int .i64 x.act.sec, .int .i64 x.act.num, .slice x.act.bA x.act.bn x.act.bc, .slice x.act.kA x.act.kn x.act.kc]] w fun e w' => (∃ v, e = .returned v) ∧ ∃ p', Both w0 w' d r F p' m (m'.act6 x) := by
  by_cases hs : x.sl = true
  · exact (same6_yes h.rd h.dk.bel h.low hL x hx hs hfew).mono fun _ _ ⟨h1, h2⟩ => ⟨h1, h.of_out h2⟩
  · exact both_same_no h x hx (by simpa using hs) hn hfew
end Go.Proofs.YtlikhmhomkiadaaGreatDoor

namespace Go.Proofs.YtlikhmhomkiadaaGreatDoor
set_option maxRecDepth 100000
open Go Go.RowKit

theorem hurt_eq {m : DM} {j : Nat} (hj : j < m.size) : m.hurt (j : Int) = (m.lost.getD j false || !decide (m.rest.getD j [] = m.meant.getD j [])) := by
  have hh : m.has (j : Int) = true := DM.has_iff.2 ⟨by omega, by omega⟩
  have hm : m.means (j : Int) = (m.meant.getD j [], 0) := by unfold DM.means; rw [if_neg (by rw [hh]; simp), Int.toNat_natCast]
  unfold DM.hurt
  by_cases hl : m.lost.getD j false = true
  · have ha : m.at_ (j : Int) = ([], true, 0) := by unfold DM.at_; rw [if_neg (by rw [hh]; simp), Int.toNat_natCast, if_pos hl]
    rw [ha, hl]
    rfl
  · have ha : m.at_ (j : Int) = (m.rest.getD j [], false, 0) := by unfold DM.at_; rw [if_neg (by rw [hh]; simp), Int.toNat_natCast, if_neg hl]
    rw [ha, hm, show m.lost.getD j false = false by simpa using hl]
theorem rd_parts {w : World} {d : Nat} {p : Nat → Nat} {m : DM} (h : RD w d p m) {j : Nat} (hj : j < m.size) : ∃ gr cr gm cm gl cl A n A2 n2,
    (w.cell? ⟨d, 0, none⟩ = some (.slice (some ⟨gr, 0, none⟩) m.size cr) ∧ w.cell? ⟨d, 1, none⟩ = some (.slice (some ⟨gm, 0, none⟩) m.size cm) ∧ w.cell? ⟨d, 2, none⟩ = some (.slice (some ⟨gl, 0, none⟩) m.size cl)) ∧
    (w.cell? ⟨gr, j, none⟩ = some (.slice (some ⟨A, 0, none⟩) 64 n) ∧ w.cell? ⟨gm, j, none⟩ = some (.slice (some ⟨A2, 0, none⟩) 64 n2) ∧ w.cell? ⟨gl, j, none⟩ = some (.bool (m.lost.getD j false))) ∧
    By w (some ⟨A, 0, none⟩) 64 n (m.rest.getD j []) ∧ By w (some ⟨A2, 0, none⟩) 64 n2 (m.meant.getD j []) ∧ Sect (m.rest.getD j []) ∧ Sect (m.meant.getD j []) := by
  obtain ⟨⟨q, hq⟩, _⟩ := h
  obtain ⟨⟨d0, d1, d2, _⟩, _⟩ := hq.head.cells
  obtain ⟨hc, _, _⟩ := hq.lostAt hj
  obtain ⟨x, hx, hxc, _, _⟩ := hq.restAt hj
  obtain ⟨y, hy, hyc, _, _⟩ := hq.meantAt hj
  have hsec : Sect (m.rest.getD j []) := by
    have hil : j < m.rest.length := hj
    rw [List.getD_eq_getElem?_getD, List.getElem?_eq_getElem hil, Option.getD_some]
    exact hq.ok.rests _ (List.getElem_mem hil)
  have hsem : Sect (m.meant.getD j []) := by
    have hil : j < m.meant.length := by rw [hq.ok.meant]; exact hj
    rw [List.getD_eq_getElem?_getD, List.getElem?_eq_getElem hil, Option.getD_some]
    exact hq.ok.means _ (List.getElem_mem hil)
  unfold slV at hxc hyc
  exact ⟨q.gr, q.cr, q.gm, q.cm, q.gl, q.cl, x.1, x.2, y.1, y.2, ⟨d0, d1, d2⟩, ⟨hxc, hyc, hc⟩, (hq.rb j x hx).2.by hsec.2, (hq.mb j y hy).2.by hsem.2, hsec, hsem⟩
theorem rd_size {w : World} {d : Nat} {p : Nat → Nat} {m : DM} (h : RD w d p m) : 1 ≤ m.size ∧ m.size ≤ 1024 ∧ m.Ok := by
  obtain ⟨⟨q, hq⟩, _⟩ := h
  exact ⟨hq.head.n1.1, hq.head.n1.2, hq.ok⟩
theorem rkeep6 {w w' : World} {a b c e f g h i j k l o : Nat} {u v x y z t : Value} (hx : Hid (Ext w.drew w')) (hc : Hid (w.cell? ⟨a, b, none⟩ = some u ∧ w.cell? ⟨c, e, none⟩ = some v ∧ w.cell? ⟨f, g, none⟩ = some x ∧ w.cell? ⟨h, i, none⟩ = some y ∧ w.cell? ⟨j, k, none⟩ = some z ∧ w.cell? ⟨l, o, none⟩ = some t)) :
    w'.cell? ⟨a, b, none⟩ = some u ∧ w'.cell? ⟨c, e, none⟩ = some v ∧ w'.cell? ⟨f, g, none⟩ = some x ∧ w'.cell? ⟨h, i, none⟩ = some y ∧ w'.cell? ⟨j, k, none⟩ = some z ∧ w'.cell? ⟨l, o, none⟩ = some t :=
  have k1 := fun {g i : Nat} {v : Value} (h : w.cell? ⟨g, i, none⟩ = some v) => ext_of_cell (w := w.drew) hx.out h
  ⟨k1 hc.out.1, k1 hc.out.2.1, k1 hc.out.2.2.1, k1 hc.out.2.2.2.1, k1 hc.out.2.2.2.2.1, k1 hc.out.2.2.2.2.2⟩
theorem rhurt_of {w : World} {d : Nat} {p : Nat → Nat} {m : DM} (h : RD w d p m) (j : Nat) (hj : j < m.size) :
    Calls Tryz.prog 48 #[.pointer (some ⟨d, 0, none⟩), .int .i64 (j : Int)] w fun e w' => e = .returned (.bool (m.hurt (j : Int))) ∧ Ext w w' := by
  obtain ⟨gr, cr, gm, cm, gl, cl, A, n, A2, n2, ⟨c0, c1, c2⟩, ⟨k0, k1, k2⟩, hb, hb2, _, _⟩ := rd_parts h hj
  have hsz := rd_size h
  have hn := hsz.2.1
  have HH := Lib.hid (hurt_eq hj)
  have HB := Lib.hid hb
  have HB2 := Lib.hid hb2
  clear h hb hb2 hsz
  rw [HH.out]
  by_cases hl : m.lost.getD j false = true
  · rw [hl] at k2 ⊢
    clear hl
    go_enter Tryz.func48, Tryz.ntmps48
    go_wp2_with fail
    go_region
    go_wp2_with fail
    go_ret
    exact ⟨rfl, by repeat (first | exact Ext.refl _ | refine Ext.drew ?_)⟩
  · have hl' : m.lost.getD j false = false := by simpa using hl
    rw [hl'] at k2 ⊢
    generalize hR : m.rest.getD j [] = R at *
    generalize hM : m.meant.getD j [] = M at *
    clear hl hl' hR hM HH
    have HC := Lib.hid (And.intro c0 (And.intro c1 (And.intro c2 (And.intro k0 (And.intro k1 k2)))))
    have HX0 : Hid (Ext w.drew w.drew) := Lib.hid (Ext.refl _)
    go_enter Tryz.func48, Tryz.ntmps48
    go_wp2_with fail
    go_region_held3 (fun w' => w'.cell? ⟨d, 0, none⟩ = some (.slice (some ⟨gr, 0, none⟩) m.size cr) ∧ w'.cell? ⟨d, 1, none⟩ = some (.slice (some ⟨gm, 0, none⟩) m.size cm) ∧ w'.cell? ⟨d, 2, none⟩ = some (.slice (some ⟨gl, 0, none⟩) m.size cl) ∧ w'.cell? ⟨gr, j, none⟩ = some (.slice (some ⟨A, 0, none⟩) 64 n) ∧ w'.cell? ⟨gm, j, none⟩ = some (.slice (some ⟨A2, 0, none⟩) 64 n2) ∧ w'.cell? ⟨gl, j, none⟩ = some (.bool false))
      (first | exact HC.out | exact rkeep6 (by assumption) HC)
      (first
        | (go_at_call 19; ((with_reducible refine (same_by _ _ R M 64 64 _ _ _ (HB.out.ext (Ext.refl w).drew) (HB2.out.ext (Ext.refl w).drew)).mono ?_); rintro e w1 ⟨rfl, hx⟩; have HX1 := Lib.hid hx; clear hx)))
    go_wp2_with fail
    go_ret
    exact ⟨rfl, (Ext.refl w).drew.trans HX1.out⟩
/-- The document's Hurt: those that are hurt, in a row of its own. -/
theorem rhurts_of {w : World} {d : Nat} {p : Nat → Nat} {m : DM} (h : RD w d p m) :
    Calls Tryz.prog 12 #[.pointer (some ⟨d, 0, none⟩)] w fun e w' => ∃ v, e = .returned v ∧ w'.ownsRow w.heap.size 3 1 v (hurtsIn m.hurt 0 m.size).length ((hurtsIn m.hurt 0 m.size).map (Value.int .i64)) ∧ Ext w w' := by
  obtain ⟨i0, hi, hz0, hz1, hz2⟩ := info_parts int_info
  have hsz := rd_size h
  have hn := hsz.2.1
  have H := Lib.hid h
  obtain ⟨N, hN⟩ : ∃ N, m.size = N := ⟨_, rfl⟩
  have HN := Lib.hid hN
  rw [hN] at hn
  rw [hN]
  have hd0 : ∀ V, Ext w V → ∃ gr cr, V.cell? ⟨d, 0, none⟩ = some (.slice (some ⟨gr, 0, none⟩) N cr) := fun V hV => by
    obtain ⟨⟨q, hq⟩, _⟩ := h.ext hV
    obtain ⟨⟨d0, _⟩, _⟩ := hq.head.cells
    rw [hN] at d0
    exact ⟨_, _, d0⟩
  have HD := Lib.hid hd0
  clear h hsz hN hd0
  go_enter Tryz.func12, Tryz.ntmps12
  go_wp2_with fail
  go_loopw [3, 4] (fun b i wr => ∃ k : Nat, k ≤ N ∧ i = .int .i64 k ∧ Hid (wr.ownsRow w.heap.size 3 1 b (hurtsIn m.hurt 0 k).length ((hurtsIn m.hurt 0 k).map (Value.int .i64)) ∧ Ext w wr)) (fun _ i _ => N - (intOf i).toNat)
  case atStart => exact ⟨0, Nat.zero_le _, rfl, Lib.hid ⟨World.ownsRow_nil _ _ _ _, Ext.refl w⟩⟩
  case round =>
    obtain ⟨k, hk, rfl, HG⟩ := hrel
    obtain ⟨gr, cr, c0⟩ := HD.out wr HG.out.2
    by_cases hlt : k < N
    · have hh := rhurt_of (H.out.ext HG.out.2) k (by rw [HN.out]; exact hlt)
      have hs := hurtsIn_succ m.hurt 0 k
      rw [show (0 : Int) + (k : Int) = (k : Int) by omega] at hs
      obtain ⟨b, hb⟩ : ∃ b, m.hurt (k : Int) = b := ⟨_, rfl⟩
      rw [hb] at hh hs
      have HH := Lib.hid hh
      have HS := Lib.hid hs
      clear hh hs hb
      cases b with
      | true =>
        go_wp2_with fail
        refine HH.out.mono ?_
        rintro e w2 ⟨rfl, hx⟩
        have HG2 := Lib.hid (And.intro (own_ext HG.out.1 hx) (HG.out.2.trans hx))
        have hfewl := hurtsIn_len m.hurt 0 k
        have hsz2 := HG2.out.2.size
        clear hx
        go_wp2_with (at_builtin; refine wpList_append_own _ rfl _ _ 41 rfl w.heap.size 3 i0 (.int .i64 0) 1 8 Tryz.underlying41 hi hz0 hz1 hz2 rfl (by decide) _ _ _ rfl (own_ext HG2.out.1 ((Ext.refl w2).alloc _)) ⟨w2.heap.size, 0, none⟩ 1 1 [.int .i64 (k : Int)] rfl rfl ?c1 ?c2 ?c3 ?c4 ?c5 ?_)
        case c1 =>
          intro j u hj
          match j, hj with
          | 0, hj => simp at hj; subst hj; simp [Addr.add]
        case c2 => intro u hu; simp at hu; subst hu; rfl
        case c3 => unfold maxLen; omega
        case c4 => omega
        case c5 => simp; omega
        intro v1 w3 hown hg _
        have HG3 : Hid (w3.ownsRow w.heap.size 3 1 v1 (hurtsIn m.hurt 0 (k + 1)).length ((hurtsIn m.hurt 0 (k + 1)).map (Value.int .i64)) ∧ Ext w w3) := by
          rw [HS.out, if_pos trivial, List.length_append, List.map_append]
          exact Lib.hid ⟨hown, Below.grown (HG2.out.2.alloc _) hg (Nat.le_trans HG2.out.2.size (by simp)) (fun g hg' => (HG2.out.1.lt g hg').1)⟩
        clear hown hg
        go_wp2_with fail
        go_roundw
        case rel => exact ⟨k + 1, by omega, by go_num, HG3⟩
        case measure => simp [intOf]; omega
      | false =>
        go_wp2_with fail
        refine HH.out.mono ?_
        rintro e w2 ⟨rfl, hx⟩
        have HG2 := Lib.hid (And.intro (own_ext HG.out.1 hx) (HG.out.2.trans hx))
        clear hx
        go_wp2_with fail
        go_roundw
        case rel => exact ⟨k + 1, by omega, by go_num, by rw [HS.out]; exact HG2⟩
        case measure => simp [intOf]; omega
    · obtain rfl : k = N := by omega
      go_wp2_with fail
      go_ret
      exact ⟨_, rfl, HG.out.1, HG.out.2⟩
end Go.Proofs.YtlikhmhomkiadaaGreatDoor
