/-
  The contract of the ghost statements' Do.
  The contracts of the ghost statements' Do, for any act, and of put.
  The contracts of restBytes, meantBytes and isBad.
-/
import Derived.Test.YtlikhmhomkiadaaGreatDoorR25
namespace Go.Proofs.YtlikhmhomkiadaaGreatDoor
set_option maxRecDepth 100000
open Go Go.RowKit

/-- A box that holds an act. -/
def box6 (x : Act6) : Obj := .cells #[.bool x.sl, .int .i64 x.ta, .int .i64 x.tb, .int .i64 x.tc, .int .i64 x.td, .int .i64 x.te, .slice x.bA x.bn x.bc, .int .u8 (x.act.kind : Int), .int .i64 x.act.sec, .int .i64 x.act.num, .slice x.act.bA x.act.bn x.act.bc, .slice x.act.kA x.act.kn x.act.kc] 39
theorem box6_cells {w : World} {g : Nat} {x : Act6} (h : w.heap[g]? = some (box6 x)) : w.cell? ⟨g, 0, none⟩ = some (.bool x.sl) ∧ w.cell? ⟨g, 1, none⟩ = some (.int .i64 x.ta) ∧ w.cell? ⟨g, 2, none⟩ = some (.int .i64 x.tb) ∧ w.cell? ⟨g, 3, none⟩ = some (.int .i64 x.tc) ∧ w.cell? ⟨g, 4, none⟩ = some (.int .i64 x.td) ∧ w.cell? ⟨g, 5, none⟩ = some (.int .i64 x.te) ∧
    w.cell? ⟨g, 6, none⟩ = some (.slice x.bA x.bn x.bc) ∧ w.cell? ⟨g, 7, none⟩ = some (.int .u8 (x.act.kind : Int)) ∧ w.cell? ⟨g, 8, none⟩ = some (.int .i64 x.act.sec) ∧ w.cell? ⟨g, 9, none⟩ = some (.int .i64 x.act.num) ∧ w.cell? ⟨g, 10, none⟩ = some (.slice x.act.bA x.act.bn x.act.bc) ∧ w.cell? ⟨g, 11, none⟩ = some (.slice x.act.kA x.act.kn x.act.kc) :=
  ⟨cell_of_row w g 0 _ _ _ h, cell_of_row w g 1 _ _ _ h, cell_of_row w g 2 _ _ _ h, cell_of_row w g 3 _ _ _ h, cell_of_row w g 4 _ _ _ h, cell_of_row w g 5 _ _ _ h, cell_of_row w g 6 _ _ _ h, cell_of_row w g 7 _ _ _ h, cell_of_row w g 8 _ _ _ h, cell_of_row w g 9 _ _ _ h, cell_of_row w g 10 _ _ _ h, cell_of_row w g 11 _ _ _ h⟩
/-- A piece of 64 bytes within a slice. -/
theorem By.piece {w : World} {g o n c : Nat} {l : List Nat} (h : By w (some ⟨g, o, none⟩) n c l) (k : Nat) (hk : k + 64 ≤ n) : By w (some ⟨g, o + k, none⟩) 64 (c - k) ((l.drop k).take 64) := by
  have hl := h.len
  have hc := h.cap
  refine ⟨by rw [List.length_take, List.length_drop]; omega, by omega, by have := h.most; omega, (h.rd.drop rfl k).take 64, fun e => by cases e⟩
/-- What a disk's calls have left behind. -/
structure Left (w0 w : World) (d : Nat) (F : Nat → Prop) (G : Nat → Prop) (v : World) (m : DM) : Prop where
  dk : DK w0 v d F m
  le : ∀ i, F i → G i
  mod : Mod G w v
theorem Left.step {w0 w v v' : World} {d : Nat} {F G : Nat → Prop} {m m' : DM} (h : Left w0 w d F G v m) (hG : ∀ i, v.heap.size ≤ i → G i) (hp : PDisk v' d (grow F v v') m') (hm : Mod F v v') : Left w0 w d (grow F v v') G v' m' :=
  ⟨h.dk.step hp hm, fun i hi => hi.elim (h.le i) fun hh => hG i hh.1, h.mod.trans hm fun i hi => .inl (h.le i hi)⟩
theorem Left.ext {w0 w v v' : World} {d : Nat} {F G : Nat → Prop} {m : DM} (h : Left w0 w d F G v m) (hx : Ext v v') : Left w0 w d F G v' m := ⟨h.dk.ext hx, h.le, h.mod.ext hx⟩

theorem keep_box {u V w' : World} {g : Nat} {x0 x1 x2 x3 x4 x5 x6 x7 x8 x9 x10 x11 : Value} {t : TypeId} (k : Hid (Ext u w')) (hV : u = V.drew) (h : Hid (V.heap[g]? = some (.cells #[x0, x1, x2, x3, x4, x5, x6, x7, x8, x9, x10, x11] t (0, 0)))) :
    w'.cell? ⟨g, 1, none⟩ = some x1 ∧ w'.cell? ⟨g, 2, none⟩ = some x2 ∧ w'.cell? ⟨g, 3, none⟩ = some x3 ∧ w'.cell? ⟨g, 4, none⟩ = some x4 ∧ w'.cell? ⟨g, 5, none⟩ = some x5 ∧ w'.cell? ⟨g, 6, none⟩ = some x6 := by
  subst hV
  have h2 := (k.out.block g (Array.getElem?_eq_some_iff.1 h.out).1).trans h.out
  exact ⟨cell_of_row w' g 1 _ _ _ h2, cell_of_row w' g 2 _ _ _ h2, cell_of_row w' g 3 _ _ _ h2, cell_of_row w' g 4 _ _ _ h2, cell_of_row w' g 5 _ _ _ h2, cell_of_row w' g 6 _ _ _ h2⟩
theorem keep_two2 {u w' : World} {g : Nat} {x0 x1 x2 x3 x4 x5 x6 x7 x8 x9 x10 x11 : Value} {t : TypeId} {G : Nat → Prop} (k : Hid (Mod G u w')) (hg : Hid (¬ G g)) (h : Hid (u.heap[g]? = some (.cells #[x0, x1, x2, x3, x4, x5, x6, x7, x8, x9, x10, x11] t (0, 0)))) :
    w'.cell? ⟨g, 2, none⟩ = some x2 ∧ w'.cell? ⟨g, 3, none⟩ = some x3 := by
  have h2 := heap_mod h.out k.out hg.out
  exact ⟨cell_of_row w' g 2 _ _ _ h2, cell_of_row w' g 3 _ _ _ h2⟩
theorem firstS_in (g p : Int) : -1 ≤ firstS g p ∧ firstS g p ≤ 156 := by
  have h1 := beg_le g
  have h2 := wid_le g
  by_cases hh : 0 ≤ p ∧ p < plc g
  · rw [firstS_yes hh]
    have hr := plc_some (r := g) (by omega)
    rcases region_cases hr with rfl | rfl | rfl | rfl | rfl <;> simp [beg, plc, wid] at hh ⊢ <;> omega
  · rw [firstS_no hh]; omega
theorem off_piece {F G : Nat → Prop} {g o o' : Nat} (hF : ∀ i, F i → G i) (h : Off G (some ⟨g, o, none⟩)) : Off F (some ⟨g, o', none⟩) := fun p hp hh => by
  injection hp with hp
  subst hp
  exact h _ rfl (hF _ hh)
set_option maxRecDepth 100000 in
set_option maxHeartbeats 2400000 in
theorem do6_yes {w0 w : World} {d : Nat} {F : Nat → Prop} {m : DM} (h : DK w0 w d F m) (hL : LaidT w0) (x : Act6) (hx : x.Ok w0 w0.heap.size) (hs : x.sl = true) (hfew : m.waits.length ≤ 1000) :
    Calls Tryz.prog 9 #[.pointer (some ⟨d, 0, none⟩), .agg #[.bool x.sl, .int .i64 x.ta, .int .i64 x.tb, .int .i64 x.tc, .int .i64 x.td, .int .i64 x.te, .slice x.bA x.bn x.bc, .int .u8 (x.act.kind : Int), .int .i64 x.act.sec, .int .i64 x.act.num, .slice x.act.bA x.act.bn x.act.bc, .slice x.act.kA x.act.kn x.act.kc]] w fun e w' => (∃ v, e = .returned v) ∧ ∃ F', DK w0 w' d F' (m.act6 x) := by
  have hB := heap_alloc_new w (box6 x)
  have hE := (Ext.refl w).alloc (box6 x)
  have hlt : w.heap.size < (w.alloc (box6 x)).heap.size := by simp
  have HB := Lib.hid hB
  have HE := Lib.hid hE
  have H := Lib.hid h
  have HL := Lib.hid hL
  have HBY : Hid (By w x.bA x.bn x.bc x.bl) := Lib.hid ((hx.body.below h.bel).more h.bel.size)
  obtain ⟨c0, c1, c2, c3, c4, c5, c6, c7, c8, c9, c10, c11⟩ := box6_cells hB
  obtain ⟨W, hW⟩ : ∃ W, wideN x.ta x.tb x.tc x.td x.te = W := ⟨_, rfl⟩
  have hW2 := wideN_le x.ta x.tb x.tc x.td x.te
  rw [hW] at hW2
  obtain ⟨E, hEE⟩ : ∃ E, x.sE = E := ⟨_, rfl⟩
  obtain ⟨L, hLL⟩ : ∃ L, x.sL = L := ⟨_, rfl⟩
  obtain ⟨S, hS⟩ : ∃ S, firstS x.tb x.tc = S := ⟨_, rfl⟩
  have hSb : -1 ≤ S ∧ S ≤ 156 := by rw [← hS]; exact firstS_in x.tb x.tc
  have HACT : Hid (m.act6 x = if E = 0 then m.puts S L W else m) := Lib.hid (by unfold DM.act6; rw [if_pos hs, hEE, hS, hLL, hW])
  have hwd : ∀ V, Ext w0 V → Calls Tryz.prog 40 #[.agg #[.int .i64 x.ta, .int .i64 x.tb, .int .i64 x.tc, .int .i64 x.td, .int .i64 x.te]] V fun r w' => r = .returned (.int .i64 (W : Nat)) ∧ Ext V w' := fun V hV => by
    have := wide6_any x.ta x.tb x.tc x.td x.te V (hL.ext hV)
    rwa [hW] at this
  have hsl : ∀ V, Ext w V → Calls Tryz.prog 39 #[.agg #[.int .i64 x.ta, .int .i64 x.tb, .int .i64 x.tc, .int .i64 x.td, .int .i64 x.te], .slice x.bA x.bn x.bc, .int .i64 (W : Nat)] V fun r w' => ∃ A' c', r = .returned (.tuple #[.slice A' L.length c', .int .i64 E]) ∧ By w' A' L.length c' L ∧ Ext V w' ∧ w'.ownsRow V.heap.size 5 1 (.slice A' L.length c') L.length (vb L) := fun V hV => by
    have := rseal_own x.ta x.tb x.tc x.td x.te (W : Nat) x.bA x.bn x.bc x.bl V (HBY.out.ext hV)
    unfold Act6.sE Act6.sL at *
    rw [hW] at hEE hLL
    rwa [hEE, hLL] at this
  have hlen : E = 0 → L.length = 64 * W ∧ 1 ≤ W := fun h0 => by
    have hbl : x.bl.length = x.bn := hx.body.len
    unfold Act6.sE at hEE
    unfold Act6.sL at hLL
    rw [hW] at hEE hLL
    rw [← hLL]
    have := (sealL_len (a := x.ta) (b := x.tb) (c := x.tc) (d := x.td) (e := x.te) (body := x.bl) (s := (W : Nat)) (by rw [hbl, hEE]; exact h0))
    rw [this.1, Int.toNat_natCast]
    exact ⟨rfl, by omega⟩
  have hfst : ∀ V, Ext w0 V → Calls Tryz.prog 42 #[.int .i64 x.tb, .int .i64 x.tc] V fun r w' => r = .returned (.int .i64 S) ∧ Ext V w' := fun V hV => by
    have := first_any x.tb x.tc V (hL.ext hV)
    rwa [hS] at this
  have HWD := Lib.hid hwd
  have HSL := Lib.hid hsl
  have HLEN := Lib.hid hlen
  rw [hs] at c0 ⊢
  have hBX : box6 x = .cells #[.bool true, .int .i64 x.ta, .int .i64 x.tb, .int .i64 x.tc, .int .i64 x.td, .int .i64 x.te, .slice x.bA x.bn x.bc, .int .u8 (x.act.kind : Int), .int .i64 x.act.sec, .int .i64 x.act.num, .slice x.act.bA x.act.bn x.act.bc, .slice x.act.kA x.act.kn x.act.kc] 39 := by unfold box6; rw [hs]
  rw [hBX] at hE c0 c1 c2 c3 c4 c5 c6 c7 c8 c9 c10 c11
  have HEX : Hid (Ext w (w.alloc (.cells #[.bool true, .int .i64 x.ta, .int .i64 x.tb, .int .i64 x.tc, .int .i64 x.td, .int .i64 x.te, .slice x.bA x.bn x.bc, .int .u8 (x.act.kind : Int), .int .i64 x.act.sec, .int .i64 x.act.num, .slice x.act.bA x.act.bn x.act.bc, .slice x.act.kA x.act.kn x.act.kc] 39)).drew) := Lib.hid hE.drew
  have HS := Lib.hid hfst
  have HEX0 := Lib.hid (h.bel.trans HEX.out)
  rw [hBX] at HB hlt
  clear h hL hx hEE hLL hS hW hwd hsl hlen hfst HBY hB hE HE
  go_enter Tryz.func9, Tryz.ntmps9
  go_wp2_with fail
  have hk1 : Hid (Ext (w.alloc (.cells #[.bool true, .int .i64 x.ta, .int .i64 x.tb, .int .i64 x.tc, .int .i64 x.td, .int .i64 x.te, .slice x.bA x.bn x.bc, .int .u8 (x.act.kind : Int), .int .i64 x.act.sec, .int .i64 x.act.num, .slice x.act.bA x.act.bn x.act.bc, .slice x.act.kA x.act.kn x.act.kc] 39)).drew (w.alloc (.cells #[.bool true, .int .i64 x.ta, .int .i64 x.tb, .int .i64 x.tc, .int .i64 x.td, .int .i64 x.te, .slice x.bA x.bn x.bc, .int .u8 (x.act.kind : Int), .int .i64 x.act.sec, .int .i64 x.act.num, .slice x.act.bA x.act.bn x.act.bc, .slice x.act.kA x.act.kn x.act.kc] 39)).drew) := Lib.hid (Ext.refl _)
  go_region_held3 (fun w' => w'.cell? ⟨w.heap.size, 1, none⟩ = some (.int .i64 x.ta) ∧ w'.cell? ⟨w.heap.size, 2, none⟩ = some (.int .i64 x.tb) ∧ w'.cell? ⟨w.heap.size, 3, none⟩ = some (.int .i64 x.tc) ∧ w'.cell? ⟨w.heap.size, 4, none⟩ = some (.int .i64 x.td) ∧ w'.cell? ⟨w.heap.size, 5, none⟩ = some (.int .i64 x.te) ∧ w'.cell? ⟨w.heap.size, 6, none⟩ = some (.slice x.bA x.bn x.bc))
    (first | exact keep_box (by assumption) rfl HB)
    (first
      | (go_at_call 40; ((with_reducible refine (HWD.out _ HEX0.out).mono ?_); rintro e w1 ⟨rfl, hx⟩; have HK1 := Lib.hid hx; have HE1 : Hid (Ext w w1) := Lib.hid (HEX.out.trans hx); clear hx))
      | (go_at_call 39; ((with_reducible refine (HSL.out _ HE1.out).mono ?_); rintro e w2 ⟨A, c, rfl, hb, hx, ho⟩; have HK2 := Lib.hid (HK1.out.trans hx); have HE2 : Hid (Ext w w2) := Lib.hid (HE1.out.trans hx); have HBL := Lib.hid hb; have HOW := Lib.hid ho; clear hx hb ho)))
  have HB2 : Hid (w2.heap[w.heap.size]? = _) := Lib.hid ((HK2.out.block _ hlt).trans HB.out)
  have H2 := Lib.hid (H.out.ext HE2.out)
  have hsz1 := HE1.out.size
  have hsz2 : w.heap.size < w2.heap.size := (Array.getElem?_eq_some_iff.1 HB2.out).1
  clear HB HWD HSL hk1 HK1 HK2 HEX HEX0 hlt c0 c1 c2 c3 c4 c5 c6 c7 c8 c9 c10 c11
  by_cases h0 : E = 0
  · have HACT : Hid (m.act6 x = m.puts S L W) := Lib.hid (by rw [HACT.out, if_pos h0])
    subst h0
    obtain ⟨hl, hw1⟩ := HLEN.out rfl
    obtain ⟨g, o, z, rfl, hg2, _⟩ := HBL.out.rd.at_ (k := 0) (by omega)
    have hg1 : w1.heap.size ≤ g := (HOW.out.lt g rfl).1
    have hoff : Off (fun i => F i ∨ w2.heap.size ≤ i) (some ⟨g, o, none⟩) := fun p hp hh => by
      injection hp with hp
      subst hp
      rcases hh with hh | hh
      · exact absurd (H.out.disk.lt _ hh) (by show ¬ g < _; omega)
      · exact absurd hh (by show ¬ _ ≤ g; omega)
    have hGB : ¬ (fun i => F i ∨ w2.heap.size ≤ i) w.heap.size := fun hh => hh.elim (fun h1 => absurd (H.out.disk.lt _ h1) (by omega)) (fun h1 => absurd h1 (by omega))
    have HOFF := Lib.hid hoff
    have HGB := Lib.hid hGB
    have hcap := HBL.out.cap
    have hdiv : (64 * (W : Int)).tdiv 64 = (W : Int) := by rw [Int.tdiv_eq_ediv_of_nonneg (by omega)]; omega
    have hdiv2 : (64 * (W : Int)) / 64 = (W : Int) := by omega
    rw [hl] at HBL HOW hcap
    rw [hl]
    have HBL := Lib.hid HBL.out
    clear hoff hGB HOW hl
    go_wp2_with fail
    go_loopw [6] (fun i wr => ∃ (k : Nat) (F' : Nat → Prop), k ≤ W ∧ i = .int .i64 k ∧ Hid (Left w0 w2 d F' (fun i => F i ∨ w2.heap.size ≤ i) wr (m.puts S L k))) (fun i _ => W - (intOf i).toNat)
    case atStart => exact ⟨0, F, Nat.zero_le _, rfl, Lib.hid ⟨H2.out, fun i hi => .inl hi, Mod.refl _ _⟩⟩
    case round =>
      obtain ⟨k, F', hk, rfl, HLF⟩ := hrel
      by_cases hlt : k < W
      · have hkk : 64 * k + 64 ≤ 64 * W := by omega
        have hcut : ∀ V : World, (Instr.slice 34 (.slice (some ⟨g, o, none⟩) (64 * W) c) (some (.int .i64 (64 * (k : Int)))) (some (.int .i64 (64 * (k : Int) + 64))) none).run Tryz.prog V = .ok (.slice (some ⟨g, o + 64 * k, none⟩) 64 (c - 64 * k)) V := fun V => by
          have := cut_mid g o (64 * W) c (64 * k) (64 * k + 64) (by omega) (by omega) (by omega) V
          rw [show 64 * k + 64 - 64 * k = 64 by omega] at this
          rw [show (64 * (k : Int)) = ((64 * k : Nat) : Int) by omega, show (((64 * k : Nat) : Int) + 64) = ((64 * k + 64 : Nat) : Int) by omega]
          exact this
        have q1 : IntKind.i64.wrap (64 * (k : Int)) = 64 * (k : Int) := IntWalk.i64_in _ (by omega)
        have q2 : IntKind.i64.wrap (64 * (k : Int) + 64) = 64 * (k : Int) + 64 := IntWalk.i64_in _ (by omega)
        have q3 : IntKind.i64.wrap (S + (k : Int)) = S + (k : Int) := IntWalk.i64_in _ (by omega)
        have HDa := Lib.hid (HLF.out.ext (Ext.refl wr).drew)
        have HMa := Lib.hid HDa.out.mod
        have HWa := Lib.hid HDa.out.dk.bel
        have HFW : Hid ((m.puts S L k).waits.length ≤ 1000000) := Lib.hid (by have := puts_waits m S L k; omega)
        have hnext : m.puts S L (k + 1) = ((m.puts S L k).write (S + (k : Int)) ((L.drop (64 * k)).take 64)).2 := rfl
        have HNX := Lib.hid hnext
        have HKK := Lib.hid hkk
        clear hnext
        go_wp2_with fail
        go_region_held3 (fun w' => w'.cell? ⟨w.heap.size, 2, none⟩ = some (.int .i64 x.tb) ∧ w'.cell? ⟨w.heap.size, 3, none⟩ = some (.int .i64 x.tc))
          (first | exact keep_two2 (by assumption) HGB HB2)
          (first
            | (go_at_call 42; ((with_reducible refine (HS.out _ HWa.out).mono ?_); rintro e wv ⟨rfl, hx⟩; have HDb := Lib.hid (HDa.out.ext hx); have HMb := Lib.hid HDb.out.mod; clear hx))
            | (go_at_call 41; ((with_reducible refine (write_pd HDb.out.dk.disk (S + (k : Int)) (some ⟨g, o + 64 * k, none⟩) 64 (c - 64 * k) _ ((HBL.out.mod HMb.out HOFF.out).piece (64 * k) HKK.out) (off_piece HDb.out.le HOFF.out) HFW.out).mono ?_); unfold Outc; rintro e wz ⟨rfl, hp, hm⟩; have HDc := Lib.hid (HDb.out.step (fun i hi => .inr (Nat.le_trans HMb.out.size hi)) hp hm); have HMc := Lib.hid HDc.out.mod; clear hp hm)))
        go_wp2_with fail
        go_roundw
        case rel => exact ⟨k + 1, _, by omega, by go_num, by rw [HNX.out]; exact HDc⟩
        case measure => simp [intOf]; omega
      · obtain rfl : k = W := by omega
        go_wp2_with fail
        go_end0
        exact ⟨⟨_, rfl⟩, _, by rw [HACT.out]; exact HLF.out.dk⟩
  · have hne : (E == 0) = false := by simpa using h0
    have HACT : Hid (m.act6 x = m) := Lib.hid (by rw [HACT.out, if_neg h0])
    clear HLEN h0
    go_wp2_with fail
    go_loopw [6] (fun i wr => i = .int .i64 0 ∧ wr = w2) (fun _ _ => 0)
    case atStart => exact ⟨rfl, rfl⟩
    case round =>
      obtain ⟨rfl, rfl⟩ := hrel
      go_wp2_with fail
      go_end0
      exact ⟨⟨_, rfl⟩, _, by rw [HACT.out]; exact H2.out⟩
end Go.Proofs.YtlikhmhomkiadaaGreatDoor

namespace Go.Proofs.YtlikhmhomkiadaaGreatDoor
set_option maxRecDepth 100000
open Go Go.RowKit

set_option maxRecDepth 100000 in
set_option maxHeartbeats 1600000 in
theorem do6_no {w0 w : World} {d : Nat} {F : Nat → Prop} {m : DM} (h : DK w0 w d F m) (x : Act6) (hx : x.Ok w0 w0.heap.size) (hs : x.sl = false) (hn : x.act.bn ≤ 200) (hfew : m.waits.length ≤ 1000) :
    Calls Tryz.prog 9 #[.pointer (some ⟨d, 0, none⟩), .agg #[.bool x.sl, .int .i64 x.ta, .int .i64 x.tb, .int .i64 x.tc, .int .i64 x.td, .int .i64 x.te, .slice x.bA x.bn x.bc, .int .u8 (x.act.kind : Int), .int .i64 x.act.sec, .int .i64 x.act.num, .slice x.act.bA x.act.bn x.act.bc, .slice x.act.kA x.act.kn x.act.kc]] w fun e w' => (∃ v, e = .returned v) ∧ ∃ F', DK w0 w' d F' (m.act6 x) := by
  have hE := (Ext.refl w).alloc (box6 x)
  have hB := heap_alloc_new w (box6 x)
  have hd := do_dk (h.ext hE) x.act hx.act hn hfew
  have HACT : Hid (m.act6 x = (m.act x.act.kind x.act.sec x.act.num x.act.bl x.act.kl).2) := Lib.hid (by unfold DM.act6; rw [if_neg (by rw [hs]; simp)])
  obtain ⟨c0, _, _, _, _, _, _, c7, c8, c9, c10, c11⟩ := box6_cells hB
  rw [hs] at c0 ⊢
  have hBX : box6 x = .cells #[.bool false, .int .i64 x.ta, .int .i64 x.tb, .int .i64 x.tc, .int .i64 x.td, .int .i64 x.te, .slice x.bA x.bn x.bc, .int .u8 (x.act.kind : Int), .int .i64 x.act.sec, .int .i64 x.act.num, .slice x.act.bA x.act.bn x.act.bc, .slice x.act.kA x.act.kn x.act.kc] 39 := by unfold box6; rw [hs]
  rw [hBX] at c0 c7 c8 c9 c10 c11 hd
  have HD := Lib.hid hd
  clear h hx hd hE hB hBX
  go_enter Tryz.func9, Tryz.ntmps9
  go_wp2_with fail
  refine HD.out.mono ?_
  rintro e w1 ⟨rfl, hk⟩
  have HK := Lib.hid hk
  clear hk
  go_wp2_with fail
  refine bodyPost_ret (results_none rfl _ _ _) rfl ?_
  exact ⟨⟨_, rfl⟩, _, by rw [HACT.out]; exact HK.out⟩
theorem do6_dk {w0 w : World} {d : Nat} {F : Nat → Prop} {m : DM} (h : DK w0 w d F m) (hL : LaidT w0) (x : Act6) (hx : x.Ok w0 w0.heap.size) (hn : x.act.bn ≤ 200) (hfew : m.waits.length ≤ 1000) :
    Calls Tryz.prog 9 #[.pointer (some ⟨d, 0, none⟩), .agg #[.bool x.sl, .int .i64 x.ta, .int .i64 x.tb, .int .i64 x.tc, .int .i64 x.td, .int .i64 x.te, .slice x.bA x.bn x.bc, .int .u8 (x.act.kind : Int), .int .i64 x.act.sec, .int .i64 x.act.num, .slice x.act.bA x.act.bn x.act.bc, .slice x.act.kA x.act.kn x.act.kc]] w fun e w' => (∃ v, e = .returned v) ∧ ∃ F', DK w0 w' d F' (m.act6 x) := by
  by_cases hs : x.sl = true
  · exact do6_yes h hL x hx hs hfew
  · exact do6_no h x hx (by simpa using hs) hn hfew

/-- A disk that is up, and has power for some writes. -/
structure Ready (m : DM) (j : Nat) : Prop where
  up : m.up = true
  size : m.size = 156
  power : m.power = -1 ∨ (j : Int) ≤ m.power
theorem Ready.less {m : DM} {j k : Nat} (h : Ready m j) (hk : k ≤ j) : Ready m k := ⟨h.up, h.size, h.power.imp id fun hp => by omega⟩
theorem Ready.write {m : DM} {j : Nat} (h : Ready m (j + 1)) {s : Int} (h0 : 0 ≤ s) (h1 : s < 156) {b : List Nat} (hb : b.length = 64) : m.write s b = (0, { m with power := lessP m.power, waits := m.waits ++ [(s.toNat, b)] }) ∧ Ready (m.write s b).2 j := by
  have hh : m.has s = true := DM.has_iff.2 ⟨h0, by rw [h.size]; exact h1⟩
  have hp0 : m.power ≠ 0 := by rcases h.power with h | h <;> omega
  have e : m.write s b = (0, { m with power := lessP m.power, waits := m.waits ++ [(s.toNat, b)] }) := by
    unfold DM.write
    rw [if_neg (by rw [h.up]; simp), if_neg (by rw [hh, hb]; simp), if_neg hp0]
  refine ⟨e, ?_⟩
  rw [e]
  refine ⟨h.up, h.size, ?_⟩
  show lessP m.power = -1 ∨ _ ≤ lessP m.power
  unfold lessP
  rcases h.power with hp | hp
  · left; rw [hp]; decide
  · right; rw [if_pos (by omega)]; omega
theorem Ready.flush {m : DM} {j : Nat} (h : Ready m (j + 1)) : m.flush = (0, { ({ m with power := lessP m.power } : DM).comes m.waits with waits := [] }) := by
  have hp0 : m.power ≠ 0 := by rcases h.power with h | h <;> omega
  unfold DM.flush
  rw [if_neg (by rw [h.up]; simp), if_neg hp0]
theorem Ready.puts {m : DM} {S : Int} {L : List Nat} {W j : Nat} (h : Ready m (j + W)) (h0 : 0 ≤ S) (h1 : S + W ≤ 156) (hl : L.length = 64 * W) : ∀ k, k ≤ W → Ready (m.puts S L k) (j + W - k) := by
  intro k
  induction k with
  | zero => intro _; exact h
  | succ k ih =>
    intro hk
    have hr := ih (by omega)
    rw [show j + W - k = (j + W - (k + 1)) + 1 by omega] at hr
    exact (hr.write (s := S + (k : Int)) (by omega) (by omega) (b := (L.drop (64 * k)).take 64) (by rw [List.length_take, List.length_drop]; omega)).2

/-- What put leaves: the frame's sectors, written and flushed. -/
def DM.put (m : DM) (s : Int) (L : List Nat) (W : Nat) : DM := (m.puts s L W).flush.2

theorem first_wid {g p : Int} (hh : 0 ≤ p ∧ p < plc g) : 0 ≤ firstS g p ∧ firstS g p + wid g ≤ 156 := by
  rw [firstS_yes hh]
  have hr := plc_some (r := g) (by omega)
  rcases region_cases hr with rfl | rfl | rfl | rfl | rfl <;> simp [beg, plc, wid] at hh ⊢ <;> omega
theorem keep_tag {u V w' : World} {g : Nat} {x0 x1 x2 x3 x4 : Value} {t : TypeId} (k : Hid (Ext u w')) (hV : u = V.drew) (h : Hid (V.heap[g]? = some (.cells #[x0, x1, x2, x3, x4] t (0, 0)))) :
    w'.cell? ⟨g, 0, none⟩ = some x0 ∧ w'.cell? ⟨g, 1, none⟩ = some x1 ∧ w'.cell? ⟨g, 2, none⟩ = some x2 ∧ w'.cell? ⟨g, 3, none⟩ = some x3 ∧ w'.cell? ⟨g, 4, none⟩ = some x4 := by
  subst hV
  have h2 := (k.out.block g (Array.getElem?_eq_some_iff.1 h.out).1).trans h.out
  exact ⟨cell_of_row w' g 0 _ _ _ h2, cell_of_row w' g 1 _ _ _ h2, cell_of_row w' g 2 _ _ _ h2, cell_of_row w' g 3 _ _ _ h2, cell_of_row w' g 4 _ _ _ h2⟩
theorem keep_tag2 {u w' : World} {g : Nat} {x0 x1 x2 x3 x4 : Value} {t : TypeId} {G : Nat → Prop} (k : Hid (Mod G u w')) (hg : Hid (¬ G g)) (h : Hid (u.heap[g]? = some (.cells #[x0, x1, x2, x3, x4] t (0, 0)))) :
    w'.cell? ⟨g, 1, none⟩ = some x1 ∧ w'.cell? ⟨g, 2, none⟩ = some x2 := by
  have h2 := heap_mod h.out k.out hg.out
  exact ⟨cell_of_row w' g 1 _ _ _ h2, cell_of_row w' g 2 _ _ _ h2⟩
end Go.Proofs.YtlikhmhomkiadaaGreatDoor

namespace Go.Proofs.YtlikhmhomkiadaaGreatDoor
set_option maxRecDepth 100000
open Go Go.RowKit

theorem at_new {w : World} {d : Nat} {F : Nat → Prop} {m : DM} (h : PDisk w d F m) (s : Int) : (∀ b ∈ (m.at_ s).1, b < 256) ∧ (m.at_ s).1.length ≤ 64 := by
  obtain ⟨g, pv, hp, _, _⟩ := h
  exact ⟨sect_lt (at_sect hp.ok s), sect_len (at_sect hp.ok s)⟩
theorem means_new {w : World} {d : Nat} {F : Nat → Prop} {m : DM} (h : PDisk w d F m) (s : Int) : (∀ b ∈ (m.means s).1, b < 256) ∧ (m.means s).1.length ≤ 64 := by
  obtain ⟨g, pv, hp, _, _⟩ := h
  exact ⟨sect_lt (means_sect hp.ok s), sect_len (means_sect hp.ok s)⟩

/-- What the observers gather, sector by sector: a row of the call's own. -/
structure Gath (w0 w : World) (v : Value) (l : List Nat) (k : Nat) : Prop where
  own : w.ownsRow w0.heap.size 5 1 v l.length (vb l)
  lt : ∀ b ∈ l, b < 256
  few : l.length ≤ 64 * k
  ext : Ext w0 w
theorem Gath.start (w : World) : Gath w w (.slice none 0 0) [] 0 := ⟨World.ownsRow_nil _ _ _ _, fun b hb => (by cases hb), by simp, Ext.refl w⟩
theorem Gath.more {w0 w w' : World} {v : Value} {l : List Nat} {k : Nat} (h : Gath w0 w v l k) (hx : Ext w w') : Gath w0 w' v l k := ⟨own_ext h.own hx, h.lt, h.few, h.ext.trans hx⟩
theorem Gath.form {w0 w : World} {v : Value} {l : List Nat} {k : Nat} (h : Gath w0 w v l k) : ∃ A c, v = .slice A l.length c ∧ By w A l.length c l := by
  obtain ⟨A, c, rfl, _, _⟩ := own_form h.own
  exact ⟨A, c, rfl, Bs.of_own h.own h.lt⟩
theorem Gath.app {w0 w w' : World} {v v' : Value} {l l2 : List Nat} {k : Nat} (h : Gath w0 w v l k) (hg : w.grownBy w' v.ownBlock) (ho : w'.ownsRow w0.heap.size 5 1 v' (l.length + l2.length) (vb l ++ vb l2)) (hl : ∀ b ∈ l2, b < 256) (hn : l2.length ≤ 64) : Gath w0 w' v' (l ++ l2) (k + 1) := by
  refine ⟨by rw [List.length_append, vb_append]; exact ho, fun b hb => (List.mem_append.1 hb).elim (h.lt b) (hl b), ?_, Below.grown h.ext hg (Ext.size h.ext) (fun g hg' => (h.own.lt g hg').1)⟩
  have := h.few
  rw [List.length_append]
  omega

set_option maxHeartbeats 800000 in
theorem meantBytes_of {w : World} {d : Nat} {F : Nat → Prop} {m : DM} (h : PDisk w d F m) (hL : LaidT w) (g p : Int) (hf : 0 ≤ firstS g p) :
    Calls Tryz.prog 61 #[.pointer (some ⟨d, 0, none⟩), .int .i64 g, .int .i64 p] w fun e w' => ∃ A c, e = .returned (.slice A (m.meantL (firstS g p) (wid g)).length c) ∧ By w' A (m.meantL (firstS g p) (wid g)).length c (m.meantL (firstS g p) (wid g)) ∧ Ext w w' := by
  obtain ⟨i0, hi, hz0, hz1, hz2⟩ := info_parts byte_info
  have hfb : firstS g p ≤ 300 := by
    have h1 := beg_le g
    have h2 := wid_le g
    by_cases hh : 0 ≤ p ∧ p < plc g
    · rw [firstS_yes hh]
      have := plc_le g
      have h3 : p * (wid g : Int) ≤ 48 * 2 := Int.mul_le_mul (by omega) (by omega) (by omega) (by omega)
      omega
    · rw [firstS_no hh]; omega
  have hw2 := wid_le g
  have HF := Lib.hid hf
  have H := Lib.hid h
  have HL := Lib.hid hL
  obtain ⟨S, hS⟩ : ∃ S, firstS g p = S := ⟨_, rfl⟩
  obtain ⟨W, hW⟩ : ∃ W, wid g = W := ⟨_, rfl⟩
  have HS := Lib.hid hS
  have HW := Lib.hid hW
  rw [hS] at hfb hf
  rw [hW] at hw2
  rw [hS, hW]
  clear h hL hS hW HF
  go_enter Tryz.func61, Tryz.ntmps61
  go_wp2_with fail
  refine (wide_any g _ HL.out).mono ?_
  rw [HW.out]
  rintro e w1 ⟨rfl, hx⟩
  have HG := Lib.hid ((Gath.start w).more hx)
  clear hx
  go_wp2_with fail
  go_loopw [7, 13] (fun b i wr => ∃ k : Nat, k ≤ W ∧ i = .int .i64 k ∧ Hid (Gath w wr b (m.meantL S k) k)) (fun _ i _ => W - (intOf i).toNat)
  case atStart => exact ⟨0, Nat.zero_le _, rfl, HG⟩
  case round =>
    obtain ⟨k, hk, rfl, HG⟩ := hrel
    obtain ⟨A, c, rfl, hby⟩ := HG.out.form
    clear hby
    by_cases hlt : k < W
    · have hn := means_new H.out (S + (k : Int))
      have hm : (m.meantL S (k + 1)) = m.meantL S k ++ (m.means (S + (k : Int))).1 := rfl
      have HM := Lib.hid hm
      have HN := Lib.hid hn
      have hfew := HG.out.few
      clear hm hn
      generalize m.meantL S k = L at *
      go_wp2_with fail
      refine (first_any g p _ (HL.out.ext HG.out.ext)).mono ?_
      rw [HS.out]
      rintro e w2 ⟨rfl, hx⟩
      have HG := Lib.hid (HG.out.more hx)
      clear hx
      go_wp2_with fail
      refine (meant_pd (H.out.ext HG.out.ext) (S + (k : Int))).mono ?_
      rintro e w3 ⟨A2, n2, rfl, hnew, hx⟩
      obtain rfl : n2 = (m.means (S + (k : Int))).1.length := hnew.len.symm
      have HB := Lib.hid hnew.by
      have HG := Lib.hid (HG.out.more hx)
      clear hx hnew
      generalize (m.means (S + (k : Int))).1 = L2 at *
      have hl2 := HN.out.2
      have hsz := HG.out.ext.size
      go_wp2_with (at_builtin; refine wpList_append_by rfl _ _ 34 rfl w.heap.size 5 i0 Tryz.underlying34 hi hz0 hz1 hz2 _ L.length (vb L) rfl HG.out.own A2 L2.length L2.length L2 rfl HB.out (by omega) hsz ?_)
      rintro v' w4 hown hgrow
      have HG := Lib.hid (HG.out.app hgrow hown HN.out.1 HN.out.2)
      clear hown hgrow
      go_wp2_with fail
      go_roundw
      case rel => exact ⟨k + 1, by omega, by go_num, by rw [HM.out]; exact HG⟩
      case measure => simp [intOf]; omega
    · obtain rfl : k = W := by omega
      go_wp2_with fail
      go_ret
      obtain ⟨A', c', e, hby⟩ := HG.out.form
      injection e with e1 _ e3
      subst e1; subst e3
      exact ⟨_, _, rfl, hby, HG.out.ext⟩

set_option maxHeartbeats 800000 in
theorem restBytes_of {w : World} {d : Nat} {F : Nat → Prop} {m : DM} (h : PDisk w d F m) (hL : LaidT w) (g p : Int) (hf : 0 ≤ firstS g p) :
    Calls Tryz.prog 114 #[.pointer (some ⟨d, 0, none⟩), .int .i64 g, .int .i64 p] w fun e w' => ∃ A n c l, e = .returned (.tuple #[.slice A n c, .bool (!m.lostB (firstS g p) (wid g))]) ∧ By w' A n c l ∧ (m.lostB (firstS g p) (wid g) = false → l = m.restL (firstS g p) (wid g)) ∧ Ext w w' := by
  obtain ⟨i0, hi, hz0, hz1, hz2⟩ := info_parts byte_info
  have hfb : firstS g p ≤ 300 := by
    have h1 := beg_le g
    have h2 := wid_le g
    by_cases hh : 0 ≤ p ∧ p < plc g
    · rw [firstS_yes hh]
      have := plc_le g
      have h3 : p * (wid g : Int) ≤ 48 * 2 := Int.mul_le_mul (by omega) (by omega) (by omega) (by omega)
      omega
    · rw [firstS_no hh]; omega
  have hw2 := wid_le g
  have H := Lib.hid h
  have HL := Lib.hid hL
  obtain ⟨S, hS⟩ : ∃ S, firstS g p = S := ⟨_, rfl⟩
  obtain ⟨W, hW⟩ : ∃ W, wid g = W := ⟨_, rfl⟩
  have HS := Lib.hid hS
  have HW := Lib.hid hW
  rw [hS] at hfb hf
  rw [hW] at hw2
  rw [hS, hW]
  clear h hL hS hW
  go_enter Tryz.func114, Tryz.ntmps114
  go_wp2_with fail
  refine (wide_any g _ HL.out).mono ?_
  rw [HW.out]
  rintro e w1 ⟨rfl, hx⟩
  have HG := Lib.hid ((Gath.start w).more hx)
  clear hx
  go_wp2_with fail
  go_loopw [8, 15] (fun b i wr => ∃ k : Nat, k ≤ W ∧ i = .int .i64 k ∧ Hid (Gath w wr b (m.restL S k) k) ∧ Hid (m.lostB S k = false)) (fun _ i _ => W - (intOf i).toNat)
  case atStart => exact ⟨0, Nat.zero_le _, rfl, HG, Lib.hid rfl⟩
  case round =>
    obtain ⟨k, hk, rfl, HG, HLO⟩ := hrel
    obtain ⟨A, c, rfl, hby⟩ := HG.out.form
    clear hby
    by_cases hlt : k < W
    · have hn := at_new H.out (S + (k : Int))
      have hm : (m.restL S (k + 1)) = m.restL S k ++ (m.at_ (S + (k : Int))).1 := rfl
      have HM := Lib.hid hm
      have HN := Lib.hid hn
      have hfew := HG.out.few
      have hlo : m.lostB S (k + 1) = (m.at_ (S + (k : Int))).2.1 := by
        have := anyIn_succ (fun s => (m.at_ s).2.1) S k
        have h2 : anyIn (fun s => (m.at_ s).2.1) S k = false := HLO.out
        rw [h2, Bool.false_or] at this
        exact this
      have hany : (m.at_ (S + (k : Int))).2.1 = true → m.lostB S W = true := fun hh => anyIn_iff.2 ⟨_, hh, by omega, by omega⟩
      have HLO2 := Lib.hid hlo
      have HANY := Lib.hid hany
      clear hm hn hlo hany
      generalize m.restL S k = L at *
      go_wp2_with fail
      refine (first_any g p _ (HL.out.ext HG.out.ext)).mono ?_
      rw [HS.out]
      rintro e w2 ⟨rfl, hx⟩
      have HG := Lib.hid (HG.out.more hx)
      clear hx
      go_wp2_with fail
      refine (rest_pd (H.out.ext HG.out.ext) (S + (k : Int))).mono ?_
      rintro e w3 ⟨A2, n2, rfl, hnew, hx⟩
      obtain rfl : n2 = (m.at_ (S + (k : Int))).1.length := hnew.len.symm
      have HB := Lib.hid hnew.by
      have HG := Lib.hid (HG.out.more hx)
      clear hx hnew
      generalize (m.at_ (S + (k : Int))).1 = L2 at *
      generalize (m.at_ (S + (k : Int))).2.2 = E2 at *
      generalize (m.at_ (S + (k : Int))).2.1 = lo at *
      cases lo with
      | true =>
        go_wp2_with fail
        refine bodyPost_ret (v := .tuple #[.slice none 0 0, .bool false]) (by simp [results, Tryz.results114, go_sem]) rfl ?_
        exact ⟨none, 0, 0, [], by rw [HANY.out (by trivial)]; rfl, By.nil_ _, fun hh => (by rw [HANY.out (by trivial)] at hh; cases hh), HG.out.ext⟩
      | false =>
        have hl2 := HN.out.2
        have hsz := HG.out.ext.size
        go_wp2_with (at_builtin; refine wpList_append_by rfl _ _ 34 rfl w.heap.size 5 i0 Tryz.underlying34 hi hz0 hz1 hz2 _ L.length (vb L) rfl HG.out.own A2 L2.length L2.length L2 rfl HB.out (by omega) hsz ?_)
        rintro v' w4 hown hgrow
        have HG := Lib.hid (HG.out.app hgrow hown HN.out.1 HN.out.2)
        clear hown hgrow
        go_wp2_with fail
        go_roundw
        case rel => exact ⟨k + 1, by omega, by go_num, by rw [HM.out]; exact HG, HLO2⟩
        case measure => simp [intOf]; omega
    · obtain rfl : k = W := by omega
      go_wp2_with fail
      obtain ⟨A', c', e, hby⟩ := HG.out.form
      injection e with e1 _ e3
      subst e1; subst e3
      refine bodyPost_ret (v := .tuple #[.slice A (m.restL S k).length c, .bool true]) (by simp [results, Tryz.results114, go_sem]) rfl ?_
      exact ⟨_, _, _, _, by rw [HLO.out]; rfl, hby, fun _ => rfl, HG.out.ext⟩

/-- A hurt place is detectable: one of its sectors is lost, or its bytes are bad there. -/
def DM.badB (m : DM) (r g p : Int) : Bool := m.lostB (firstS g p) (wid g) || decide (stM (m.restL (firstS g p) (wid g)) r g p = 2)
set_option maxHeartbeats 1600000 in
theorem isBad_of {w : World} {d : Nat} {F : Nat → Prop} {m : DM} (h : PDisk w d F m) (hL : LaidF w) (r g p : Int) (hf : 0 ≤ firstS g p) :
    Calls Tryz.prog 51 #[.pointer (some ⟨d, 0, none⟩), .int .i64 r, .int .i64 g, .int .i64 p] w fun e w' => e = .returned (.bool (m.badB r g p)) ∧ Ext w w' := by
  have hr := restBytes_of h hL.a.t g p hf
  obtain ⟨LB, hlb⟩ : ∃ LB, m.lostB (firstS g p) (wid g) = LB := ⟨_, rfl⟩
  obtain ⟨L, hl⟩ : ∃ L, m.restL (firstS g p) (wid g) = L := ⟨_, rfl⟩
  have HBB : Hid (m.badB r g p = (LB || decide (stM L r g p = 2))) := Lib.hid (by unfold DM.badB; rw [hlb, hl])
  rw [hlb, hl] at hr
  have HR := Lib.hid hr
  have HL := Lib.hid hL
  clear h hL hr hlb hl
  go_enter Tryz.func51, Tryz.ntmps51
  go_wp2_with fail
  refine HR.out.mono ?_
  rintro e w1 ⟨A, n, c, l, rfl, hb, hl, hx⟩
  have HX := Lib.hid hx
  have HB := Lib.hid hb
  have HLL := Lib.hid hl
  clear hx hb hl
  go_wp2_with fail
  refine (mine_any A n c l r g p _ (HL.out.ext HX.out) HB.out).mono ?_
  rintro e w2 ⟨A2, n2, rfl, _, hx⟩
  have HX := Lib.hid (HX.out.trans hx)
  clear hx
  cases LB with
  | true =>
    generalize stM l r g p = st at *
    generalize mfl l r g p = fl at *
    go_wp2_with fail
    refine bodyPost_ret (v := .bool true) (by simp [results, Tryz.results51, go_sem]) rfl ?_
    refine ⟨by rw [HBB.out]; rfl, ?_⟩
    exact HX.out.alloc _
  | false =>
    obtain rfl := HLL.out rfl
    have HD : Hid (((stM l r g p : Int) == 2) = decide (stM l r g p = 2)) := Lib.hid (by
      by_cases hh : stM l r g p = 2
      · simp [hh]
      · simp [hh]; omega)
    generalize stM l r g p = st at *
    generalize mfl l r g p = fl at *
    go_wp2_with fail
    refine bodyPost_ret (v := .bool ((st : Int) == 2)) (by simp [results, Tryz.results51, go_sem]) rfl ?_
    refine ⟨by rw [HBB.out, HD.out]; rfl, ?_⟩
    exact HX.out.alloc _
end Go.Proofs.YtlikhmhomkiadaaGreatDoor
