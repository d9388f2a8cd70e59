/-
  The contracts of the ghost statements' Do, for any act, and of put.
  Plain facts that the ghost statements' walks come to: disks without faults; faults leave what is meant; what put leaves.
-/
import Derived.Test.YtldgamgdbneneaaDoorQ22
import Derived.Test.YtldgamgdbneneaaDoorQ27
namespace Go.Proofs.YtldgamgdbneneaaDoor
open Go Go.RowKit

set_option maxRecDepth 100000 in
set_option maxHeartbeats 1600000 in
theorem do6_no {w0 w : World} {d : Nat} {F : Nat → Prop} {m : DM} (h : DK w0 w d F m) (x : Act6) (hx : x.Ok w0 w0.heap.size) (hs : x.sl = false) (hn : x.act.bn ≤ 200) (hfew : m.waits.length ≤ 1000) :
    Calls Tryd.prog 14 #[.pointer (some ⟨d, 0, none⟩), .agg #[.bool x.sl, .int .i64 x.ta, .int .i64 x.tb, .int .i64 x.tc, .int .i64 x.td, .int .i64 x.te, .slice x.bA x.bn x.bc, .int .u8 (x.act.kind : Int), .int .i64 x.act.sec, .int .i64 x.act.num, .slice x.act.bA x.act.bn x.act.bc, .slice x.act.kA x.act.kn x.act.kc]] w fun e w' => (∃ v, e = .returned v) ∧ ∃ F', DK w0 w' d F' (m.act6 x) := by
  have hE := (Ext.refl w).alloc (box6 x)
  have hB := heap_alloc_new w (box6 x)
  have hd := do_dk (h.ext hE) x.act hx.act hn hfew
  have HACT : Hid (m.act6 x = (m.act x.act.kind x.act.sec x.act.num x.act.bl x.act.kl).2) := Lib.hid (by unfold DM.act6; rw [if_neg (by rw [hs]; simp)])
  obtain ⟨c0, _, _, _, _, _, _, c7, c8, c9, c10, c11⟩ := box6_cells hB
  rw [hs] at c0 ⊢
  have hBX : box6 x = .cells #[.bool false, .int .i64 x.ta, .int .i64 x.tb, .int .i64 x.tc, .int .i64 x.td, .int .i64 x.te, .slice x.bA x.bn x.bc, .int .u8 (x.act.kind : Int), .int .i64 x.act.sec, .int .i64 x.act.num, .slice x.act.bA x.act.bn x.act.bc, .slice x.act.kA x.act.kn x.act.kc] 51 := by unfold box6; rw [hs]
  rw [hBX] at c0 c7 c8 c9 c10 c11 hd
  have HD := Lib.hid hd
  clear h hx hd hE hB hBX
  go_enter Tryd.func14, Tryd.ntmps14
  go_wp2_with fail
  refine HD.out.mono ?_
  rintro e w1 ⟨rfl, hk⟩
  have HK := Lib.hid hk
  clear hk
  go_wp2_with fail
  refine bodyPost_ret (results_none rfl _ _ _) rfl ?_
  exact ⟨⟨_, rfl⟩, _, by rw [HACT.out]; exact HK.out⟩
theorem do6_dk {w0 w : World} {d : Nat} {F : Nat → Prop} {m : DM} (h : DK w0 w d F m) (hL : LaidT w0) (x : Act6) (hx : x.Ok w0 w0.heap.size) (hn : x.act.bn ≤ 200) (hfew : m.waits.length ≤ 1000) :
    Calls Tryd.prog 14 #[.pointer (some ⟨d, 0, none⟩), .agg #[.bool x.sl, .int .i64 x.ta, .int .i64 x.tb, .int .i64 x.tc, .int .i64 x.td, .int .i64 x.te, .slice x.bA x.bn x.bc, .int .u8 (x.act.kind : Int), .int .i64 x.act.sec, .int .i64 x.act.num, .slice x.act.bA x.act.bn x.act.bc, .slice x.act.kA x.act.kn x.act.kc]] w fun e w' => (∃ v, e = .returned v) ∧ ∃ F', DK w0 w' d F' (m.act6 x) := by
  by_cases hs : x.sl = true
  · exact do6_yes h hL x hx hs hfew
  · exact do6_no h x hx (by simpa using hs) hn hfew

/-- A disk that is up, and has power for some writes. -/
structure Ready (m : DM) (j : Nat) : Prop where
  up : m.up = true
  size : m.size = 156
  power : m.power = -1 ∨ (j : Int) ≤ m.power
theorem Ready.less {m : DM} {j k : Nat} (h : Ready m j) (hk : k ≤ j) : Ready m k := ⟨h.up, h.size, h.power.imp id fun hp => by omega⟩
theorem Ready.write {m : DM} {j : Nat} (h : Ready m (j + 1)) {s : Int} (h0 : 0 ≤ s) (h1 : s < 156) {b : List Nat} (hb : b.length = 64) : m.write s b = (0, { m with power := lessP m.power, waits := m.waits ++ [(s.toNat, b)] }) ∧ Ready (m.write s b).2 j := by
  have hh : m.has s = true := DM.has_iff.2 ⟨h0, by rw [h.size]; exact h1⟩
  have hp0 : m.power ≠ 0 := by rcases h.power with h | h <;> omega
  have e : m.write s b = (0, { m with power := lessP m.power, waits := m.waits ++ [(s.toNat, b)] }) := by
    unfold DM.write
    rw [if_neg (by rw [h.up]; simp), if_neg (by rw [hh, hb]; simp), if_neg hp0]
  refine ⟨e, ?_⟩
  rw [e]
  refine ⟨h.up, h.size, ?_⟩
  show lessP m.power = -1 ∨ _ ≤ lessP m.power
  unfold lessP
  rcases h.power with hp | hp
  · left; rw [hp]; decide
  · right; rw [if_pos (by omega)]; omega
theorem Ready.flush {m : DM} {j : Nat} (h : Ready m (j + 1)) : m.flush = (0, { ({ m with power := lessP m.power } : DM).comes m.waits with waits := [] }) := by
  have hp0 : m.power ≠ 0 := by rcases h.power with h | h <;> omega
  unfold DM.flush
  rw [if_neg (by rw [h.up]; simp), if_neg hp0]
theorem Ready.puts {m : DM} {S : Int} {L : List Nat} {W j : Nat} (h : Ready m (j + W)) (h0 : 0 ≤ S) (h1 : S + W ≤ 156) (hl : L.length = 64 * W) : ∀ k, k ≤ W → Ready (m.puts S L k) (j + W - k) := by
  intro k
  induction k with
  | zero => intro _; exact h
  | succ k ih =>
    intro hk
    have hr := ih (by omega)
    rw [show j + W - k = (j + W - (k + 1)) + 1 by omega] at hr
    exact (hr.write (s := S + (k : Int)) (by omega) (by omega) (b := (L.drop (64 * k)).take 64) (by rw [List.length_take, List.length_drop]; omega)).2

/-- What put leaves: the frame's sectors, written and flushed. -/
def DM.put (m : DM) (s : Int) (L : List Nat) (W : Nat) : DM := (m.puts s L W).flush.2

theorem first_wid {g p : Int} (hh : 0 ≤ p ∧ p < plc g) : 0 ≤ firstS g p ∧ firstS g p + wid g ≤ 156 := by
  rw [firstS_yes hh]
  have hr := plc_some (r := g) (by omega)
  rcases region_cases hr with rfl | rfl | rfl | rfl | rfl <;> simp [beg, plc, wid] at hh ⊢ <;> omega
theorem keep_tag {u V w' : World} {g : Nat} {x0 x1 x2 x3 x4 : Value} {t : TypeId} (k : Hid (Ext u w')) (hV : u = V.drew) (h : Hid (V.heap[g]? = some (.cells #[x0, x1, x2, x3, x4] t (0, 0)))) :
    w'.cell? ⟨g, 0, none⟩ = some x0 ∧ w'.cell? ⟨g, 1, none⟩ = some x1 ∧ w'.cell? ⟨g, 2, none⟩ = some x2 ∧ w'.cell? ⟨g, 3, none⟩ = some x3 ∧ w'.cell? ⟨g, 4, none⟩ = some x4 := by
  subst hV
  have h2 := (k.out.block g (Array.getElem?_eq_some_iff.1 h.out).1).trans h.out
  exact ⟨cell_of_row w' g 0 _ _ _ h2, cell_of_row w' g 1 _ _ _ h2, cell_of_row w' g 2 _ _ _ h2, cell_of_row w' g 3 _ _ _ h2, cell_of_row w' g 4 _ _ _ h2⟩
theorem keep_tag2 {u w' : World} {g : Nat} {x0 x1 x2 x3 x4 : Value} {t : TypeId} {G : Nat → Prop} (k : Hid (Mod G u w')) (hg : Hid (¬ G g)) (h : Hid (u.heap[g]? = some (.cells #[x0, x1, x2, x3, x4] t (0, 0)))) :
    w'.cell? ⟨g, 1, none⟩ = some x1 ∧ w'.cell? ⟨g, 2, none⟩ = some x2 := by
  have h2 := heap_mod h.out k.out hg.out
  exact ⟨cell_of_row w' g 1 _ _ _ h2, cell_of_row w' g 2 _ _ _ h2⟩
set_option maxRecDepth 100000 in
set_option maxHeartbeats 2400000 in
theorem put_of {w0 w : World} {d : Nat} {F : Nat → Prop} {m : DM} (h : DK w0 w d F m) (hL : LaidF w0) (a b c t e : Int) (A : Option Addr) (n cp : Nat) (body : List Nat) (hb : Bs w0 w0.heap.size A n cp body) (hm : mayB a b c t e = true) (hn : n ≤ 43) (hr : Ready m 3) (hfew : m.waits.length ≤ 1000) :
    Calls Tryd.prog 16 #[.pointer (some ⟨d, 0, none⟩), .agg #[.int .i64 a, .int .i64 b, .int .i64 c, .int .i64 t, .int .i64 e], .slice A n cp] w fun r w' => r = .returned (.bool true) ∧ ∃ F', DK w0 w' d F' (m.put (firstS b c) (sealL a b c t e body (wid b : Nat)) (wid b)) := by
  have hbl : body.length = n := hb.len
  have hmm := mayB_iff.1 hm
  obtain ⟨W, hW⟩ : ∃ W, wid b = W := ⟨_, rfl⟩
  have hW1 : 1 ≤ W := by rw [← hW]; exact wid_pos ⟨hmm.2.2.1, hmm.2.2.2.1⟩
  have hW2 : W ≤ 2 := by rw [← hW]; exact wid_le b
  have hWN : wideN a b c t e = W := by unfold wideN; rw [if_pos hm, hW]
  obtain ⟨S, hS⟩ : ∃ S, firstS b c = S := ⟨_, rfl⟩
  have hSb : 0 ≤ S ∧ S + W ≤ 156 := by rw [← hS, ← hW]; exact first_wid ⟨hmm.2.2.2.2.1, hmm.2.2.2.2.2.1⟩
  have hE : sealE a b c t e n (W : Nat) = 0 := sealE_yes (by rcases (by omega : W = 1 ∨ W = 2) with rfl | rfl <;> decide) hm (by rcases (by omega : W = 1 ∨ W = 2) with rfl | rfl <;> (simp [roomN]; omega))
  obtain ⟨L, hLL⟩ : ∃ L, sealL a b c t e body (W : Nat) = L := ⟨_, rfl⟩
  have hlen : L.length = 64 * W := by
    have := (sealL_len (a := a) (b := b) (c := c) (d := t) (e := e) (body := body) (s := (W : Nat)) (by rw [hbl]; exact hE)).1
    rw [← hLL, this, Int.toNat_natCast]
  rw [hW, hS, hLL]
  have HBY : Hid (By w A n cp body) := Lib.hid ((hb.below h.bel).more h.bel.size)
  have hwd : ∀ V, Ext w0 V → Calls Tryd.prog 18 #[.agg #[.int .i64 a, .int .i64 b, .int .i64 c, .int .i64 t, .int .i64 e]] V fun r w' => r = .returned (.int .i64 (W : Nat)) ∧ Ext V w' := fun V hV => by
    have := wide6_any a b c t e V (hL.ext hV).a.t
    rwa [hWN] at this
  have hsl : ∀ V, Ext w0 V → Ext w V → Calls Tryd.prog 42 #[.agg #[.int .i64 a, .int .i64 b, .int .i64 c, .int .i64 t, .int .i64 e], .slice A n cp, .int .i64 (W : Nat)] V fun r w' => ∃ A' c', r = .returned (.tuple #[.slice A' (64 * W) c', .int .i64 0]) ∧ By w' A' (64 * W) c' L ∧ w'.ownsRow V.heap.size 5 1 (.slice A' (64 * W) c') (64 * W) (vb L) ∧ Ext V w' := fun V hV hV2 =>
    (seal_own a b c t e (W : Nat) A n cp body V (hL.ext hV) (HBY.out.ext hV2)).mono fun r w' ⟨A', c', h1, h2, h3, h4⟩ => by
      rw [hLL, hE] at h1
      rw [hLL] at h2 h3
      rw [hlen] at h1 h2 h3
      exact ⟨A', c', h1, h2, h3 hE, h4⟩
  have hfst : ∀ V, Ext w0 V → Calls Tryd.prog 20 #[.int .i64 b, .int .i64 c] V fun r w' => r = .returned (.int .i64 S) ∧ Ext V w' := fun V hV => by
    have := first_any b c V (hL.ext hV).a.t
    rwa [hS] at this
  have hB := heap_alloc_new w (.cells #[.int .i64 a, .int .i64 b, .int .i64 c, .int .i64 t, .int .i64 e] 37)
  have hX := (Ext.refl w).alloc (.cells #[.int .i64 a, .int .i64 b, .int .i64 c, .int .i64 t, .int .i64 e] 37)
  have hlt : w.heap.size < (w.alloc (.cells #[.int .i64 a, .int .i64 b, .int .i64 c, .int .i64 t, .int .i64 e] 37)).heap.size := by simp
  obtain ⟨⟨i0, i1, i2, i3, i4⟩, _⟩ := five_cells hB
  have HB := Lib.hid hB
  have H := Lib.hid h
  have HWD := Lib.hid hwd
  have HSL := Lib.hid hsl
  have HS := Lib.hid hfst
  have HR := Lib.hid hr
  have HLN := Lib.hid hlen
  have HEX : Hid (Ext w (w.alloc (.cells #[.int .i64 a, .int .i64 b, .int .i64 c, .int .i64 t, .int .i64 e] 37)).drew) := Lib.hid hX.drew
  have HEX0 := Lib.hid (h.bel.trans HEX.out)
  have HPUTS : Hid (∀ k, k ≤ W → Ready (m.puts S L k) (1 + W - k)) := Lib.hid ((hr.less (show 1 + W ≤ 3 by omega)).puts hSb.1 hSb.2 hlen)
  clear h hL hb hm hmm hr hW hWN hS hE hLL hlen HBY hwd hsl hfst hB hX hbl
  go_enter Tryd.func16, Tryd.ntmps16
  go_wp2_with fail
  have hk1 : Hid (Ext (w.alloc (.cells #[.int .i64 a, .int .i64 b, .int .i64 c, .int .i64 t, .int .i64 e] 37)).drew (w.alloc (.cells #[.int .i64 a, .int .i64 b, .int .i64 c, .int .i64 t, .int .i64 e] 37)).drew) := Lib.hid (Ext.refl _)
  go_region_held3 (fun w' => w'.cell? ⟨w.heap.size, 0, none⟩ = some (.int .i64 a) ∧ w'.cell? ⟨w.heap.size, 1, none⟩ = some (.int .i64 b) ∧ w'.cell? ⟨w.heap.size, 2, none⟩ = some (.int .i64 c) ∧ w'.cell? ⟨w.heap.size, 3, none⟩ = some (.int .i64 t) ∧ w'.cell? ⟨w.heap.size, 4, none⟩ = some (.int .i64 e))
    (first | exact keep_tag (by assumption) rfl HB)
    (first
      | (go_at_call 18; ((with_reducible refine (HWD.out _ HEX0.out).mono ?_); rintro r w1 ⟨rfl, hx⟩; have HK1 := Lib.hid hx; have HE1 : Hid (Ext w w1) := Lib.hid (HEX.out.trans hx); have HE01 := Lib.hid (HEX0.out.trans hx); clear hx))
      | (go_at_call 42; ((with_reducible refine (HSL.out _ HE01.out HE1.out).mono ?_); rintro r w2 ⟨A2, c2, rfl, hb, ho, hx⟩; have HK2 := Lib.hid (HK1.out.trans hx); have HE2 : Hid (Ext w w2) := Lib.hid (HE1.out.trans hx); have HE02 := Lib.hid (HE01.out.trans hx); have HBL := Lib.hid hb; have HOW := Lib.hid ho; clear hx hb ho)))
  have HB2 : Hid (w2.heap[w.heap.size]? = _) := Lib.hid ((HK2.out.block _ hlt).trans HB.out)
  have hsz1 := HE1.out.size
  have hsz2 : w.heap.size < w2.heap.size := (Array.getElem?_eq_some_iff.1 HB2.out).1
  clear HSL hk1 HK1 HK2 HEX HEX0 hlt i0 i1 i2 i3 i4
  obtain ⟨⟨i0, i1, i2, i3, i4⟩, _⟩ := five_cells HB2.out
  have hq64 : IntKind.i64.wrap (64 * (W : Int)) = 64 * (W : Int) := IntWalk.i64_in _ (by omega)
  go_wp2_with fail
  refine (HWD.out _ HE02.out).mono ?_
  rintro r w3 ⟨rfl, hx⟩
  have HB3 : Hid (w3.heap[w.heap.size]? = _) := Lib.hid ((hx.block _ hsz2).trans HB2.out)
  have hsz3 := hx.size
  have H3 := Lib.hid (H.out.ext (HE2.out.trans hx))
  have HBL3 := Lib.hid (HBL.out.ext hx)
  obtain ⟨g, o, z, rfl, hg2, _⟩ := HBL.out.rd.at_ (k := 0) (by rw [HLN.out]; omega)
  have hg1 : w1.heap.size ≤ g := (HOW.out.lt g rfl).1
  have hoff : Off (fun i => F i ∨ w3.heap.size ≤ i) (some ⟨g, o, none⟩) := fun p hp hh => by
    injection hp with hp
    subst hp
    rcases hh with hh | hh
    · exact absurd (H.out.disk.lt _ hh) (by show ¬ g < _; omega)
    · exact absurd hh (by show ¬ _ ≤ g; omega)
  have hGB : ¬ (fun i => F i ∨ w3.heap.size ≤ i) w.heap.size := fun hh => hh.elim (fun h1 => absurd (H.out.disk.lt _ h1) (by omega)) (fun h1 => absurd h1 (by omega))
  have HOFF := Lib.hid hoff
  have HGB := Lib.hid hGB
  have hcap := HBL.out.cap
  clear hoff hGB hx HOW HB2 i0 i1 i2 i3 i4 HBL HE2 HE02 HE1 HE01
  go_wp2_with fail
  go_loopw [9] (fun i wr => ∃ (k : Nat) (F' : Nat → Prop), k ≤ W ∧ i = .int .i64 k ∧ Hid (Left w0 w3 d F' (fun i => F i ∨ w3.heap.size ≤ i) wr (m.puts S L k))) (fun i _ => W - (intOf i).toNat)
  case atStart => exact ⟨0, F, Nat.zero_le _, rfl, Lib.hid ⟨H3.out, fun i hi => .inl hi, Mod.refl _ _⟩⟩
  case round =>
    obtain ⟨k, F', hk, rfl, HLF⟩ := hrel
    obtain ⟨⟨i0, i1, i2, i3, i4⟩, _⟩ := five_cells (heap_mod HB3.out HLF.out.mod HGB.out)
    have HW0 := Lib.hid HLF.out.dk.bel
    by_cases hlt : k < W
    · have hkk : 64 * k + 64 ≤ 64 * W := by omega
      have hcut : ∀ V : World, (Instr.slice 38 (.slice (some ⟨g, o, none⟩) (64 * W) c2) (some (.int .i64 (64 * (k : Int)))) (some (.int .i64 (64 * (k : Int) + 64))) none).run Tryd.prog V = .ok (.slice (some ⟨g, o + 64 * k, none⟩) 64 (c2 - 64 * k)) V := fun V => by
        have := cut_mid g o (64 * W) c2 (64 * k) (64 * k + 64) (by omega) (by omega) (by omega) V
        rw [show 64 * k + 64 - 64 * k = 64 by omega] at this
        rw [show (64 * (k : Int)) = ((64 * k : Nat) : Int) by omega, show (((64 * k : Nat) : Int) + 64) = ((64 * k + 64 : Nat) : Int) by omega]
        exact this
      have q1 : IntKind.i64.wrap (64 * (k : Int)) = 64 * (k : Int) := IntWalk.i64_in _ (by omega)
      have q2 : IntKind.i64.wrap (64 * (k : Int) + 64) = 64 * (k : Int) + 64 := IntWalk.i64_in _ (by omega)
      have q3 : IntKind.i64.wrap (S + (k : Int)) = S + (k : Int) := IntWalk.i64_in _ (by omega)
      have HFW : Hid ((m.puts S L k).waits.length ≤ 1000000) := Lib.hid (by have := puts_waits m S L k; omega)
      have HNX : Hid (m.puts S L (k + 1) = ((m.puts S L k).write (S + (k : Int)) ((L.drop (64 * k)).take 64)).2) := Lib.hid rfl
      have HKK := Lib.hid hkk
      have HZ : Hid (((m.puts S L k).write (S + (k : Int)) ((L.drop (64 * k)).take 64)).1 = 0) := Lib.hid (by
        have hr := HPUTS.out k hk
        rw [show 1 + W - k = (W - k) + 1 by omega] at hr
        rw [(hr.write (s := S + (k : Int)) (by omega) (by omega) (b := (L.drop (64 * k)).take 64) (by rw [List.length_take, List.length_drop, HLN.out]; omega)).1])
      go_wp2_with fail
      refine (HWD.out _ HW0.out).mono ?_
      rintro r wx ⟨rfl, hx⟩
      have HDa := Lib.hid (HLF.out.ext (hx.trans (Ext.refl wx).drew))
      have HMa := Lib.hid HDa.out.mod
      have HWa := Lib.hid HDa.out.dk.bel
      clear hx i0 i1 i2 i3 i4
      go_wp2_with fail
      go_region_held3 (fun w' => w'.cell? ⟨w.heap.size, 1, none⟩ = some (.int .i64 b) ∧ w'.cell? ⟨w.heap.size, 2, none⟩ = some (.int .i64 c))
        (first | exact keep_tag2 (by assumption) HGB HB3)
        (first
          | (go_at_call 20; ((with_reducible refine (HS.out _ HWa.out).mono ?_); rintro e wv ⟨rfl, hx⟩; have HDb := Lib.hid (HDa.out.ext hx); have HMb := Lib.hid HDb.out.mod; clear hx))
          | (go_at_call 40; ((with_reducible refine (write_pd HDb.out.dk.disk (S + (k : Int)) (some ⟨g, o + 64 * k, none⟩) 64 (c2 - 64 * k) _ ((HBL3.out.mod HMb.out HOFF.out).piece (64 * k) HKK.out) (off_piece HDb.out.le HOFF.out) HFW.out).mono ?_); unfold Outc; rw [HZ.out]; rintro e wz ⟨rfl, hp, hm⟩; have HDc := Lib.hid (HDb.out.step (fun i hi => .inr (Nat.le_trans HMb.out.size hi)) hp hm); have HMc := Lib.hid HDc.out.mod; clear hp hm)))
      go_wp2_with fail
      go_roundw
      case rel => exact ⟨k + 1, _, by omega, by go_num, by rw [HNX.out]; exact HDc⟩
      case measure => simp [intOf]; omega
    · obtain rfl : k = W := by omega
      have HZ : Hid ((m.puts S L k).flush.1 = 0) := Lib.hid (by
        have hr := HPUTS.out k hk
        rw [show 1 + k - k = 0 + 1 by omega] at hr
        rw [hr.flush])
      go_wp2_with fail
      refine (HWD.out _ HW0.out).mono ?_
      rintro r wx ⟨rfl, hx⟩
      have HDa := Lib.hid (HLF.out.ext hx)
      clear hx i0 i1 i2 i3 i4
      go_wp2_with fail
      refine (flush_pd HDa.out.dk.disk).mono ?_
      unfold Outc
      rw [HZ.out]
      rintro r wy ⟨rfl, hp, hm⟩
      have HDc := Lib.hid (HDa.out.dk.step hp hm)
      clear hp hm
      go_wp2_with fail
      go_ret
      exact ⟨rfl, _, HDc.out⟩
end Go.Proofs.YtldgamgdbneneaaDoor

namespace Go.Proofs.YtldgamgdbneneaaDoor

theorem puts_ok {m : DM} (h : m.Ok) {S : Int} {L : List Nat} (hl : ∀ x ∈ L, x < 256) (k : Nat) : (m.puts S L k).Ok := by
  induction k with
  | zero => exact h
  | succ k ih => exact DM.write_ok ih _ fun x hx => hl x (List.mem_of_mem_drop (List.mem_of_mem_take hx))
theorem write_size (m : DM) (s : Int) (b : List Nat) : (m.write s b).2.size = m.size := by
  unfold DM.write
  split
  · rfl
  · split
    · rfl
    · split <;> rfl
theorem puts_size (m : DM) (S : Int) (L : List Nat) (k : Nat) : (m.puts S L k).size = m.size := by
  induction k with
  | zero => rfl
  | succ k ih => exact (write_size _ _ _).trans ih
theorem flush_size (m : DM) : m.flush.2.size = m.size := by
  unfold DM.flush
  split
  · rfl
  · split
    · rfl
    · exact DM.comes_size _ _
theorem act_size (m : DM) (kind : Nat) (sec num : Int) (bytes : List Nat) (keep : List Bool) : (m.act kind sec num bytes keep).2.size = m.size := by
  unfold DM.act
  split
  · exact flush_size m
  · unfold DM.crash; split
    · rfl
    · exact DM.comes_size _ _
  · unfold DM.start; split <;> rfl
  · unfold DM.flip; split
    · rfl
    · simp [DM.size]
  · unfold DM.lose; split <;> rfl
  · unfold DM.stray; split
    · rfl
    · simp [DM.size]
  · unfold DM.setPower; split
    · rfl
    · split <;> rfl
  · exact write_size _ _ _
theorem act6_ok {m : DM} (h : m.Ok) {x : Act6} (hb : ∀ y ∈ x.bl, y < 256) (ha : ∀ y ∈ x.act.bl, y < 256) : (m.act6 x).Ok := by
  unfold DM.act6
  split
  · split
    · exact puts_ok h (fun y hy => sealL_lt hb y hy) _
    · exact h
  · exact DM.act_ok h _ _ _ ha _
theorem act6_size (m : DM) (x : Act6) : (m.act6 x).size = m.size := by
  unfold DM.act6
  split
  · split
    · exact puts_size _ _ _ _
    · rfl
  · exact act_size _ _ _ _ _ _

/-- A disk without faults. -/
structure NInv (m : DM) : Prop where
  ok : m.Ok
  same : ∀ i, m.rest.getD i [] = m.meant.getD i []
  none_ : ∀ i, m.lost.getD i false = false
theorem NInv.of_eq {m m' : DM} (h : NInv m) (hok : m'.Ok) (h1 : m'.rest = m.rest) (h2 : m'.meant = m.meant) (h3 : m'.lost = m.lost) : NInv m' :=
  ⟨hok, fun i => by rw [h1, h2]; exact h.same i, fun i => by rw [h3]; exact h.none_ i⟩
theorem NInv.comes {m : DM} (h : NInv m) {l : List (Nat × List Nat)} (hl : ∀ x ∈ l, x ∈ m.waits) : NInv (m.comes l) := by
  have g := comes_get l m h.ok fun x hx => (h.ok.waits x (hl x hx)).1
  refine ⟨DM.comes_ok l h.ok fun x hx => (h.ok.waits x (hl x hx)).2, fun i => ?_, fun i => ?_⟩
  · rw [(g i).1, (g i).2.1, h.same i]
  · rw [(g i).2.2, h.none_ i]
    split <;> rfl
theorem NInv.write {m : DM} (h : NInv m) (s : Int) {b : List Nat} (hb : ∀ x ∈ b, x < 256) : NInv (m.write s b).2 := by
  have hok := DM.write_ok h.ok s hb
  revert hok
  unfold DM.write
  split
  · intro _; exact h
  · split
    · intro _; exact h
    · split
      · intro hok; exact h.of_eq hok rfl rfl rfl
      · intro hok; exact h.of_eq hok rfl rfl rfl
theorem NInv.act {m : DM} (h : NInv m) (kind : Nat) (sec num : Int) {bytes : List Nat} (hb : ∀ x ∈ bytes, x < 256) (keep : List Bool) (hk : ¬ (3 ≤ kind % 9 ∧ kind % 9 ≤ 5)) : NInv (m.act kind sec num bytes keep).2 := by
  have hok := DM.act_ok h.ok kind sec num hb keep
  have h9 : kind % 9 < 9 := Nat.mod_lt _ (by omega)
  have hcase : kind % 9 = 0 ∨ kind % 9 = 1 ∨ kind % 9 = 2 ∨ kind % 9 = 6 ∨ kind % 9 = 7 ∨ kind % 9 = 8 := by omega
  unfold DM.act at hok ⊢
  rcases hcase with e | e | e | e | e | e
  · simp only [e] at hok ⊢
    revert hok
    unfold DM.flush
    split
    · intro _; exact h
    · split
      · intro hok; exact h.of_eq hok rfl rfl rfl
      · intro hok
        have h2 : NInv { m with power := lessP m.power } := h.of_eq ⟨h.ok.meant, h.ok.lost, h.ok.rests, h.ok.means, h.ok.waits, lessP_le h.ok.power⟩ rfl rfl rfl
        exact (h2.comes (l := m.waits) fun x hx => hx).of_eq hok rfl rfl rfl
  · simp only [e] at hok ⊢
    revert hok
    unfold DM.crash
    split
    · intro _; exact h
    · intro hok; exact (h.comes (l := kept m.waits keep) fun x hx => kept_mem hx).of_eq hok rfl rfl rfl
  · simp only [e] at hok ⊢
    revert hok
    unfold DM.start
    split
    · intro _; exact h
    · intro hok; exact h.of_eq hok rfl rfl rfl
  · simp only [e] at hok ⊢
    exact h.write sec (actB_lt hb)
  · simp only [e] at hok ⊢
    exact h.write sec (actB_lt hb)
  · simp only [e] at hok ⊢
    revert hok
    unfold DM.setPower
    split
    · intro _; exact h
    · split
      · intro _; exact h
      · intro hok; exact h.of_eq hok rfl rfl rfl
theorem NInv.puts {m : DM} (h : NInv m) {S : Int} {L : List Nat} (hl : ∀ x ∈ L, x < 256) (k : Nat) : NInv (m.puts S L k) := by
  induction k with
  | zero => exact h
  | succ k ih => exact ih.write _ fun x hx => hl x (List.mem_of_mem_drop (List.mem_of_mem_take hx))
theorem NInv.act6 {m : DM} (h : NInv m) {x : Act6} (hb : ∀ y ∈ x.bl, y < 256) (ha : ∀ y ∈ x.act.bl, y < 256) (hk : x.sl = true ∨ ¬ (3 ≤ x.act.kind % 9 ∧ x.act.kind % 9 ≤ 5)) : NInv (m.act6 x) := by
  unfold DM.act6
  split
  · split
    · exact h.puts (fun y hy => sealL_lt hb y hy) _
    · exact h
  · rename_i hs
    exact h.act _ _ _ ha _ (hk.resolve_left hs)
theorem NInv.hurt {m : DM} (h : NInv m) (s : Int) : m.hurt s = false := by
  unfold DM.hurt DM.at_ DM.means
  by_cases hh : m.has s = false
  · rw [if_pos hh, if_pos hh]; rfl
  · rw [if_neg hh, if_neg hh, h.none_, h.same]
    simp
theorem NInv.new (n : Nat) : NInv (DM.new n) := by
  refine ⟨DM.new_ok n, fun i => rfl, fun i => ?_⟩
  show (List.replicate n false).getD i false = false
  rw [List.getD_eq_getElem?_getD, List.getElem?_replicate]
  split <;> rfl

/-- Faults leave what is meant. -/
structure MInv (m : DM) (M : List (List Nat)) : Prop where
  ok : m.Ok
  size : m.size = 156
  meant : m.meant = M
theorem MInv.fault {m : DM} {M : List (List Nat)} (h : MInv m M) (kind : Nat) (sec num : Int) {bytes : List Nat} (hb : ∀ x ∈ bytes, x < 256) (keep : List Bool) (hk : 3 ≤ kind % 9 ∧ kind % 9 ≤ 5) : MInv (m.act kind sec num bytes keep).2 M := by
  refine ⟨DM.act_ok h.ok kind sec num hb keep, (act_size _ _ _ _ _ _).trans h.size, ?_⟩
  have hcase : kind % 9 = 3 ∨ kind % 9 = 4 ∨ kind % 9 = 5 := by omega
  unfold DM.act
  rcases hcase with e | e | e
  · simp only [e]
    unfold DM.flip
    split
    · exact h.meant
    · exact h.meant
  · simp only [e]
    unfold DM.lose
    split
    · exact h.meant
    · exact h.meant
  · simp only [e]
    unfold DM.stray
    split
    · exact h.meant
    · exact h.meant
theorem MInv.means {m m' : DM} {M : List (List Nat)} (h : MInv m M) (h' : MInv m' M) (s : Int) : m.means s = m'.means s := by
  unfold DM.means DM.has
  rw [h.size, h'.size, h.meant, h'.meant]
theorem MInv.meantL {m m' : DM} {M : List (List Nat)} (h : MInv m M) (h' : MInv m' M) (a : Int) (n : Nat) : m.meantL a n = m'.meantL a n :=
  catS_congr fun s _ _ => by rw [h.means h' s]

/-- The pieces of a frame. -/
def pieceL (L : List Nat) (k : Nat) : List Nat := (L.drop (64 * k)).take 64
theorem puts_form {m : DM} {S : Int} {L : List Nat} {W : Nat} (h : Ready m (1 + W)) (h0 : 0 ≤ S) (h1 : S + W ≤ 156) (hl : L.length = 64 * W) : ∀ k, k ≤ W →
    (m.puts S L k).waits = m.waits ++ (List.range k).map (fun j => ((S + ((j : Nat) : Int)).toNat, pieceL L j)) ∧ (m.puts S L k).rest = m.rest ∧ (m.puts S L k).meant = m.meant ∧ (m.puts S L k).lost = m.lost := by
  intro k
  induction k with
  | zero => intro _; exact ⟨by simp [DM.puts], rfl, rfl, rfl⟩
  | succ k ih =>
    intro hk
    obtain ⟨i1, i2, i3, i4⟩ := ih (by omega)
    have hr := h.puts h0 h1 hl k (by omega)
    rw [show 1 + W - k = (W - k) + 1 by omega] at hr
    have e := (hr.write (s := S + (k : Int)) (by omega) (by omega) (b := (L.drop (64 * k)).take 64) (by rw [List.length_take, List.length_drop]; omega)).1
    show ((m.puts S L k).write (S + (k : Int)) ((L.drop (64 * k)).take 64)).2.waits = _ ∧ ((m.puts S L k).write (S + (k : Int)) ((L.drop (64 * k)).take 64)).2.rest = _ ∧ ((m.puts S L k).write (S + (k : Int)) ((L.drop (64 * k)).take 64)).2.meant = _ ∧ ((m.puts S L k).write (S + (k : Int)) ((L.drop (64 * k)).take 64)).2.lost = _
    rw [e]
    refine ⟨?_, i2, i3, i4⟩
    show (m.puts S L k).waits ++ _ = _
    rw [i1, List.range_succ, List.map_append, List.append_assoc]
    rfl
theorem lastW_pieces (l : List (Nat × List Nat)) {S : Int} (h0 : 0 ≤ S) (f : Nat → List Nat) : ∀ k i, i < k → lastW (l ++ (List.range k).map (fun j => ((S + ((j : Nat) : Int)).toNat, f j))) (S + (i : Int)).toNat = some (f i) := by
  intro k
  induction k with
  | zero => intro i hi; omega
  | succ k ih =>
    intro i hi
    rw [List.range_succ, List.map_append, ← List.append_assoc, List.map_cons, List.map_nil, lastW_snoc]
    by_cases hik : i = k
    · subst hik
      rw [if_pos rfl]
    · rw [if_neg (by show ¬ (S + (k : Int)).toNat = _; omega)]
      exact ih i (by omega)
/-- What put leaves at the frame's sectors. -/
structure Put (m : DM) (S : Int) (L : List Nat) (W : Nat) : Prop where
  ok : m.Ok
  size : m.size = 156
  waits : m.waits = []
  at_ : ∀ i, i < W → m.at_ (S + ((i : Nat) : Int)) = (pieceL L i, false, 0) ∧ m.means (S + ((i : Nat) : Int)) = (pieceL L i, 0)
theorem put_put {m : DM} {S : Int} {L : List Nat} {W : Nat} (hok : m.Ok) (h : Ready m (1 + W)) (h0 : 0 ≤ S) (h1 : S + W ≤ 156) (hl : L.length = 64 * W) (hb : ∀ x ∈ L, x < 256) : Put (m.put S L W) S L W := by
  have hsz : (m.put S L W).size = 156 := by
    unfold DM.put
    rw [flush_size, puts_size, h.size]
  have hokp := puts_ok hok hb (S := S) W
  obtain ⟨f1, f2, f3, f4⟩ := puts_form h h0 h1 hl W (Nat.le_refl _)
  have hr := h.puts h0 h1 hl W (Nat.le_refl _)
  rw [show 1 + W - W = 0 + 1 by omega] at hr
  have e := hr.flush
  have hok2 : ({ (m.puts S L W) with power := lessP (m.puts S L W).power } : DM).Ok := ⟨hokp.meant, hokp.lost, hokp.rests, hokp.means, hokp.waits, lessP_le hokp.power⟩
  have g := comes_get (m.puts S L W).waits { (m.puts S L W) with power := lessP (m.puts S L W).power } hok2 fun x hx => (hokp.waits x hx).1
  refine ⟨DM.flush_ok hokp, hsz, by unfold DM.put; rw [e], fun i hi => ?_⟩
  have hw : lastW (m.puts S L W).waits (S + (i : Int)).toNat = some (pieceL L i) := by
    rw [f1]
    exact lastW_pieces m.waits h0 (pieceL L) W i hi
  have hg := g (S + (i : Int)).toNat
  rw [hw] at hg
  have hhas : (m.put S L W).has (S + (i : Int)) = true := DM.has_iff.2 ⟨by omega, by rw [hsz]; omega⟩
  have er : (m.put S L W).rest = (({ (m.puts S L W) with power := lessP (m.puts S L W).power } : DM).comes (m.puts S L W).waits).rest := by unfold DM.put; rw [e]
  have em : (m.put S L W).meant = (({ (m.puts S L W) with power := lessP (m.puts S L W).power } : DM).comes (m.puts S L W).waits).meant := by unfold DM.put; rw [e]
  have el : (m.put S L W).lost = (({ (m.puts S L W) with power := lessP (m.puts S L W).power } : DM).comes (m.puts S L W).waits).lost := by unfold DM.put; rw [e]
  unfold DM.at_ DM.means
  have hlo : (m.put S L W).lost.getD (S + (i : Int)).toNat false = false := by rw [el, hg.2.2]; rfl
  have hh : ¬ (m.put S L W).has (S + (i : Int)) = false := by rw [hhas]; simp
  rw [if_neg hh, if_neg (by rw [hlo]; simp), if_neg hh, er, em, hg.1, hg.2.1]
  exact ⟨rfl, rfl⟩
theorem catS_pieces {f : Int → List Nat} {S : Int} {L : List Nat} : ∀ k, (∀ i, i < k → f (S + ((i : Nat) : Int)) = pieceL L i) → catS f S k = L.take (64 * k) := by
  intro k
  induction k with
  | zero => intro _; simp [catS]
  | succ k ih =>
    intro h
    rw [catS_succ, ih fun i hi => h i (by omega), h k (by omega), show 64 * (k + 1) = 64 * k + 64 by omega, List.take_add]
    rfl
theorem Put.meantL {m : DM} {S : Int} {L : List Nat} {W : Nat} (h : Put m S L W) (hl : L.length = 64 * W) : m.meantL S W = L := by
  unfold DM.meantL
  rw [catS_pieces W fun i hi => by rw [(h.at_ i hi).2], ← hl, List.take_length]
theorem Put.unhurt {m : DM} {S : Int} {L : List Nat} {W : Nat} (h : Put m S L W) : anyIn m.hurt S W = false := by
  cases hh : anyIn m.hurt S W with
  | false => rfl
  | true =>
    obtain ⟨s, h1, h2, h3⟩ := anyIn_iff.1 hh
    have := h.at_ (s - S).toNat (by omega)
    rw [show S + (((s - S).toNat : Nat) : Int) = s by omega] at this
    unfold DM.hurt at h1
    rw [this.1, this.2] at h1
    simp at h1
end Go.Proofs.YtldgamgdbneneaaDoor
