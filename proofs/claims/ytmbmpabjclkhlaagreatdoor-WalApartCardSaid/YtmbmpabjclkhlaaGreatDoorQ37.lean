/-
  For WalApart: a put amid which the power may go, a crash from which nothing comes through, a start: the other slots are told as they were; the disk's calls on a log's disk.
-/
import Derived.Test.YtmbmpabjclkhlaaGreatDoorQ00
import Derived.Test.YtmbmpabjclkhlaaGreatDoorQ01
import Derived.Test.YtmbmpabjclkhlaaGreatDoorQ10
import Derived.Test.YtmbmpabjclkhlaaGreatDoorQ12
import Derived.Test.YtmbmpabjclkhlaaGreatDoorQ16
import Derived.Test.YtmbmpabjclkhlaaGreatDoorQ21
import Derived.Test.YtmbmpabjclkhlaaGreatDoorQ35
import Derived.Test.YtmbmpabjclkhlaaGreatDoorQ36
import Derived.Deep.DeepCutAuto
import Derived.Deep.RegionHeld3
import Derived.Laws.AppendOwnNone
import Derived.Laws.AppendOwn
namespace Go.Proofs.YtmbmpabjclkhlaaGreatDoor
set_option maxRecDepth 100000
section
open Go Go.RowKit
theorem CD.putAny {m : DM} {pw : Int} (h : CD m pw) {s : Nat} {i x y : Int} {e : Ent} (hi : (s : Int) + 1 ≤ i ∧ i ≤ (s : Int) + 24) (hb : balE x y = true) (he : enOk e = true) (r inc : Int) : m.putA s r inc i x y e = m.putW r inc i x y e := by
  have : putE m s i x y e = 0 := by
    unfold putE
    rw [if_neg (Decidable.not_not.2 hi), if_neg (Decidable.not_not.2 ⟨hb, he⟩), if_neg (by rw [h.up]; simp)]
  exact if_pos this
structure Apt (m : DM) (r inc : Int) (K n : Nat) (x y : Int) (e : Ent) (m1 : DM) (E : Int) (m2 m3 m4 : DM) : Prop where
  power : m.setPower (n : Int) = (0, m1)
  few : m1.waits.length + 20 ≤ 1000000
  put : m1.putA 0 r inc (K : Int) x y e = (E, m2)
  crash : m2.crash [] = (0, m3)
  start : m3.start = (0, m4)
  cd : CD m4 (-1)
  told : ∀ k : Nat, 1 ≤ k → k ≤ 24 → k ≠ K → m4.rptW r (k : Int) = m.rptW r (k : Int)
theorem apart_told {m : DM} (h : CD m (-1)) (n : Nat) {r inc x y : Int} {e : Ent} {K : Nat} (hK : 1 ≤ K ∧ K ≤ 24) (hr : 0 ≤ r ∧ r ≤ 6) (hc : 1 ≤ inc ∧ inc ≤ 1099511627776) (hb : balE x y = true) (he : enOk e = true) :
    ∃ m1 E m2 m3 m4, Apt m r inc K n x y e m1 E m2 m3 m4 := by
  obtain ⟨m1, e1, c1, g1⟩ := h.power_ n
  have hq : placeW (K : Int) = ((K - 1 : Nat) : Int) := by unfold placeW; omega
  have hT := Tch.putW c1 (inc := inc) (x := x) (y := y) (e := e) hq (by omega) hr (by omega) hc hb he
  have hA := CD.putAny c1 (s := 0) (i := (K : Int)) (x := x) (y := y) (e := e) (by omega) hb he r inc
  obtain ⟨a, b, c, d⟩ := hT.again []
  refine ⟨m1, (m1.putW r inc (K : Int) x y e).1, (m1.putW r inc (K : Int) x y e).2, ((m1.putW r inc (K : Int) x y e).2.crash []).2, ((m1.putW r inc (K : Int) x y e).2.crash []).2.start.2, e1, by rw [c1.b.waits]; simp, hA, Prod.ext a rfl, Prod.ext b rfl, c, fun k h1 h2 hne => ?_⟩
  have hqk : placeW (k : Int) = ((k - 1 : Nat) : Int) := by unfold placeW; omega
  exact (told_same h c hqk (by omega) r fun t ht => (d t (slT_far (by omega) (by omega) (by omega) ht)).trans (g1 t)).2
section
variable {w0 w : World} {d : Nat} {F : Nat → Prop} {g s : Nat} {r inc : Int} {m m' : DM}
theorem power_ldk (h : LD w0 w d F g s r inc m) (n : Int) (hn : n ≤ 9223372036854775807) {E : Int} (hp : m.setPower n = (E, m')) :
    Calls Tryz.prog 31 #[.pointer (some ⟨d, 0, none⟩), .int .i64 n] w fun e w' => e = .returned (.int .i64 E) ∧ ∃ F', LD w0 w' d F' g s r inc m' ∧ Kept F F' w w' := by
  have hq := power_pd h.dk.disk n hn
  rw [hp] at hq
  exact hq.mono fun e w' ho => ⟨ho.1, h.stepK ho.step.2⟩
theorem crash_ldk (h : LD w0 w d F g s r inc m) {E : Int} (hp : m.crash [] = (E, m')) :
    Calls Tryz.prog 32 #[.pointer (some ⟨d, 0, none⟩), .slice none 0 0] w fun e w' => e = .returned (.int .i64 E) ∧ ∃ F', LD w0 w' d F' g s r inc m' ∧ Kept F F' w w' := by
  have hq := crash_pd h.dk.disk none 0 0 [] ⟨rfl, Nat.le_refl _, by omega, fun h => absurd h (by omega), fun _ => rfl⟩ fun h => absurd h (by omega)
  rw [hp] at hq
  exact hq.mono fun e w' ho => ⟨ho.1, h.stepK ho.step.2⟩
theorem start_ldk (h : LD w0 w d F g s r inc m) {E : Int} (hp : m.start = (E, m')) :
    Calls Tryz.prog 33 #[.pointer (some ⟨d, 0, none⟩)] w fun e w' => e = .returned (.int .i64 E) ∧ ∃ F', LD w0 w' d F' g s r inc m' ∧ Kept F F' w w' := by
  have hq := start_pd h.dk.disk
  rw [hp] at hq
  exact hq.mono fun e w' ho => ⟨ho.1, h.stepK ho.step.2⟩
end
theorem setA_sizeW : ∀ (xs : List Value) (cs : Array Value) (o : Nat), (setA cs o xs).size = cs.size
  | [], _, _ => rfl
  | x :: xs, cs, o => by
    show (setA (cs.setIfInBounds o x) (o + 1) xs).size = _
    rw [setA_sizeW xs, Array.size_setIfInBounds]
structure WasW (w : World) (F : Nat → Prop) (b n : Nat) (f : Nat → Rpt) : Prop where
  row : ∃ cs, Keep w F b (.cells cs 81 (0, 0)) ∧ cs.size = 275
  at_ : ∀ k, 1 ≤ k → k < n → ∀ j v, (rptC (f k))[j]? = some v → w.cell? ⟨b, k * 11 + j, none⟩ = some v
theorem WasW.kept {w w' : World} {F F' : Nat → Prop} {b n : Nat} {f : Nat → Rpt} (h : WasW w F b n f) (k : Kept F F' w w') : WasW w' F' b n f := by
  obtain ⟨cs, hr, hs⟩ := h.row
  refine ⟨⟨cs, hr.kept k, hs⟩, fun i h1 h2 j v hv => ?_⟩
  rw [cell_of_row w' b _ _ _ _ (hr.kept k).row, ← cell_of_row w b _ _ _ _ hr.row]
  exact h.at_ i h1 h2 j v hv
theorem WasW.ext {w w' : World} {F : Nat → Prop} {b n : Nat} {f : Nat → Rpt} (h : WasW w F b n f) (k : Ext w w') : WasW w' F b n f := h.kept (Kept.of_ext k)
theorem WasW.there {w : World} {F : Nat → Prop} {b n : Nat} {f : Nat → Rpt} (h : WasW w F b n f) {k : Nat} (hk : k < 25) : w.there b (k * 11) 11 := by
  obtain ⟨cs, hr, hs⟩ := h.row
  exact there_row hr.row _ _ (by omega)
theorem WasW.set {w : World} {F : Nat → Prop} {b n : Nat} {f : Nat → Rpt} (h : WasW w F b n f) (hn : n < 25) (R : Rpt) (hR : f n = R) : WasW (w.setCells b (n * 11) (rptC R)) F b (n + 1) f := by
  have ht := h.there hn
  obtain ⟨cs, hr, hs⟩ := h.row
  refine ⟨⟨_, ⟨row_setCells hr.row _ _, hr.off⟩, by rw [setA_sizeW]; exact hs⟩, fun i h1 h2 j v hv => ?_⟩
  have hj : j < 11 := by have := (List.getElem?_eq_some_iff.1 hv).1; rw [rptC_len] at this; exact this
  by_cases e : i = n
  · subst e
    rw [hR] at hv
    rw [World.cell?_setCells_in b (rptC R) (i * 11) w (fun q hq => (ht q (by rw [rptC_len] at hq; exact hq)).1) j (by rw [rptC_len]; exact hj)]
    rw [List.getElem?_eq_getElem (by rw [rptC_len]; exact hj)] at hv
    exact hv
  · rw [World.cell?_setCells_out b (rptC R) (n * 11) w ⟨b, i * 11 + j, none⟩ (fun _ _ => .inl (by show i * 11 + j < n * 11; omega))]
    exact h.at_ i h1 (by omega) j v hv
theorem WasW.mod {w : World} {b : Nat} (cs : List Value) (o : Nat) : Mod (fun k => k = b) w (w.setCells b o cs) := by
  have : ∀ (vs : List Value) (o : Nat) (V : World), Mod (fun k => k = b) w V → Mod (fun k => k = b) w (V.setCells b o vs) := by
    intro vs
    induction vs with
    | nil => intro o V hV; exact hV
    | cons v vs ih => intro o V hV; exact ih (o + 1) _ (Mod.setCell hV (p := ⟨b, o, none⟩) (.inl rfl) v)
  exact this cs o w (Mod.refl _ _)
theorem LD.setW {w0 w : World} {d : Nat} {F : Nat → Prop} {g s : Nat} {r inc : Int} {m : DM} (h : LD w0 w d F g s r inc m) {b : Nat} (hb : ¬ F b) (hg : b ≠ g) (hl : w0.heap.size ≤ b) (o : Nat) (vs : List Value) : LD w0 (w.setCells b o vs) d F g s r inc m := by
  have hm := WasW.mod (w := w) (b := b) vs o
  exact ⟨h.dk.mod hm (fun k hk hh => hb (hh ▸ hk)) (fun k hk => hk ▸ hl), h.log.mod hm (fun e => hg e.symm), h.off, h.low⟩
theorem told_rowA {w : World} {base L : Nat} {v : Value} {ps : List Rpt} (hL : ps.length = L) (h : w.ownsRow base 80 11 v L (toldC ps)) :
    ∃ A c, v = .slice A L c ∧ ∀ (k : Nat) (x : Rpt), ps[k]? = some x → ∃ g, A = some ⟨g, 0, none⟩ ∧ ∀ j, j < 11 → w.cell? ⟨g, k * 11 + j, none⟩ = (rptC x)[j]? := by
  subst hL
  rcases told_row h with ⟨rfl, rfl⟩ | ⟨g, cap, rfl, _, _, hc⟩
  · exact ⟨none, 0, rfl, fun k x hk => by simp at hk⟩
  · exact ⟨_, cap, rfl, fun k x hk => ⟨g, rfl, hc k x hk⟩⟩
end
section
open Go Go.RowKit
theorem put_cells {w : World} {g o j n c B : Nat} {A : Option Addr} {l : List PutA} (h : Ls PutA.cells 10 w B A n c l) (hj : j < n) (hA : A = some ⟨g, o, none⟩) : ∃ a : PutA, l[j]? = some a ∧
    w.cell? ⟨g, o + j * 10, none⟩ = some (.int .u8 (a.at_ : Nat)) ∧ w.cell? ⟨g, o + j * 10 + 1, none⟩ = some (.int .i64 a.x) ∧ w.cell? ⟨g, o + j * 10 + 2, none⟩ = some (.int .i64 a.y) ∧
    w.cell? ⟨g, o + j * 10 + 3, none⟩ = some (.int .u8 (a.e.k : Nat)) ∧ w.cell? ⟨g, o + j * 10 + 4, none⟩ = some (.int .i64 a.e.cl) ∧ w.cell? ⟨g, o + j * 10 + 5, none⟩ = some (.int .i64 a.e.sq) ∧ w.cell? ⟨g, o + j * 10 + 6, none⟩ = some (.int .u8 (a.e.ok : Nat)) ∧
    w.cell? ⟨g, o + j * 10 + 7, none⟩ = some (.string a.e.key) ∧ w.cell? ⟨g, o + j * 10 + 8, none⟩ = some (.string a.e.old) ∧ w.cell? ⟨g, o + j * 10 + 9, none⟩ = some (.string a.e.val) := by
  obtain ⟨g', o', a, h1, _, h2, h3⟩ := h.at_ hj
  rw [hA] at h1
  injection h1 with h1
  injection h1 with h1 h4
  subst h1 h4
  exact ⟨a, h2, h3 0 _ rfl, h3 1 _ rfl, h3 2 _ rfl, h3 3 _ rfl, h3 4 _ rfl, h3 5 _ rfl, h3 6 _ rfl, h3 7 _ rfl, h3 8 _ rfl, h3 9 _ rfl⟩
abbrev P9 (w : World) (g q : Nat) (x y : Int) (k : Nat) (cl sq : Int) (ok : Nat) (key old val : ByteArray) : Prop := w.cell? ⟨g, q + 1, none⟩ = some (.int .i64 x) ∧ w.cell? ⟨g, q + 2, none⟩ = some (.int .i64 y) ∧ w.cell? ⟨g, q + 3, none⟩ = some (.int .u8 (k : Int)) ∧ w.cell? ⟨g, q + 4, none⟩ = some (.int .i64 cl) ∧ w.cell? ⟨g, q + 5, none⟩ = some (.int .i64 sq) ∧ w.cell? ⟨g, q + 6, none⟩ = some (.int .u8 (ok : Int)) ∧ w.cell? ⟨g, q + 7, none⟩ = some (.string key) ∧ w.cell? ⟨g, q + 8, none⟩ = some (.string old) ∧ w.cell? ⟨g, q + 9, none⟩ = some (.string val)
theorem P9.ext {w w' : World} {g q : Nat} {x y : Int} {k : Nat} {cl sq : Int} {ok : Nat} {key old val : ByteArray} (hx : Ext w w') (h : P9 w g q x y k cl sq ok key old val) : P9 w' g q x y k cl sq ok key old val := by
  obtain ⟨a1, a2, a3, a4, a5, a6, a7, a8, a9⟩ := h
  exact ⟨ext_of_cell hx a1, ext_of_cell hx a2, ext_of_cell hx a3, ext_of_cell hx a4, ext_of_cell hx a5, ext_of_cell hx a6, ext_of_cell hx a7, ext_of_cell hx a8, ext_of_cell hx a9⟩
def FitsE (n : Nat) (l : List PutA) (w : World) (e : Ending) (w' : World) : Prop := ∃ b : Bool, e = .returned (.bool b) ∧ Ext w w' ∧ (b = true → n ≤ 30 ∧ ∀ a ∈ l, balE a.x a.y = true ∧ enOk a.e = true)
theorem pR_two {x y : Int} {e : Ent} (h : ¬ (balE x y = true ∧ enOk e = true)) : pR x y e = 2 := if_neg h
set_option maxHeartbeats 1600000 in
theorem fits_of {w : World} (A : Option Addr) (n c : Nat) (l : List PutA) (h : Ls PutA.cells 10 w w.heap.size A n c l) (ho : ∀ a ∈ l, a.Wf) (hL : Laid w) :
    Calls Tryz.prog 29 #[.slice A n c] w (FitsE n l w) := by
  have HA := Lib.hid h
  have HO := Lib.hid ho
  have HL := Lib.hid hL
  have hcap := h.cap
  have hmost := h.most
  have hn := Nat.zero_le n
  clear h ho hL
  go_enter Tryz.func29, Tryz.ntmps29
  by_cases hn30 : 30 < n
  · go_wp2_with fail
    go_ret
    exact ⟨false, rfl, Ext.refl _, fun h => by cases h⟩
  go_wp2_with fail
  go_loopw [3] (fun i wr => ∃ k : Nat, k ≤ n ∧ i = .int .i64 k ∧ Hid (Ext w wr) ∧ Hid (∀ a ∈ l.take k, balE a.x a.y = true ∧ enOk a.e = true)) (fun i _ => n - (intOf i).toNat)
  case atStart => exact ⟨0, Nat.zero_le _, rfl, Lib.hid (Ext.refl _), Lib.hid fun a ha => by simp at ha⟩
  case round =>
    obtain ⟨k, hkn, rfl, HX, HT⟩ := hrel
    by_cases hlt : k < n
    · obtain ⟨g, o, a0, rfl, hg, ha0, _⟩ := HA.out.at_ hlt
      obtain ⟨a, ha, c0, c1, c2, c3, c4, c5, c6, c7, c8, c9⟩ := put_cells (HA.out.below (Ext.refl w)) hlt rfl
      have HAL := Lib.hid ha
      have HOK := Lib.hid (HO.out a (List.mem_of_getElem? ha))
      clear ha0 ha
      obtain ⟨at_, x, y, ek, cl, sq, ok, key, old, val⟩ := a
      dsimp only at c0 c1 c2 c3 c4 c5 c6 c7 c8 c9
      have hS : P9 wr.drew g (o + k * 10) x y ek cl sq ok key old val := P9.ext (Below.drew HX.out) ⟨c1, c2, c3, c4, c5, c6, c7, c8, c9⟩
      obtain ⟨d1, d2, d3, d4, d5, d6, d7, d8, d9⟩ := hS
      have hS0 : P9 wr.drew g (o + k * 10) x y ek cl sq ok key old val := ⟨d1, d2, d3, d4, d5, d6, d7, d8, d9⟩
      clear c0 c1 c2 c3 c4 c5 c6 c7 c8 c9
      have HC := Lib.hid (printE_any x y ek cl sq ok key old val wr.drew (HL.out.ext (Below.drew HX.out)) HOK.out.e.ok)
      obtain ⟨E, hE⟩ : ∃ E, pR x y ⟨ek, cl, sq, ok, key, old, val⟩ = E := ⟨_, rfl⟩
      have HE := Lib.hid hE
      rw [hE] at HC
      generalize (pL x y ⟨ek, cl, sq, ok, key, old, val⟩) = PL at HC
      clear hE
      by_cases hb : balE x y = true ∧ enOk ⟨ek, cl, sq, ok, key, old, val⟩ = true
      · have hE0 : E = 0 := HE.out.symm.trans (pR_yes hb.1 hb.2)
        subst hE0
        have HB := Lib.hid hb
        clear hb
        go_wp2_with fail
        go_region_held3 (fun w' => P9 w' g (o + k * 10) x y ek cl sq ok key old val)
          (first | with_reducible exact hS0 | with_reducible exact hS1 | with_reducible assumption)
          (first
            | (go_at_call 65; ((with_reducible refine HC.out.mono ?_); rintro e' w' ⟨A', c', rfl, _, hx⟩; have HX9 := Lib.hid hx; have hS1 := P9.ext hx hS0; clear hx)))
        go_wp2_with fail
        go_roundw
        case rel => exact ⟨k + 1, by omega, by go_num, Lib.hid (HX.out.trans ((Below.drew (Ext.refl wr)).trans HX9.out)), Lib.hid fun b hb' => by
          rw [List.take_add_one, HAL.out] at hb'
          rcases List.mem_append.1 hb' with h | h
          · exact HT.out b h
          · simp only [Option.toList_some, List.mem_singleton] at h
            subst h
            exact HB.out⟩
        case measure => simp [intOf]; omega
      · have hE0 : E = 2 := HE.out.symm.trans (pR_two hb)
        subst hE0
        clear hb
        go_wp2_with fail
        go_region_held3 (fun w' => P9 w' g (o + k * 10) x y ek cl sq ok key old val)
          (first | with_reducible exact hS0 | with_reducible exact hS1 | with_reducible assumption)
          (first
            | (go_at_call 65; ((with_reducible refine HC.out.mono ?_); rintro e' w' ⟨A', c', rfl, _, hx⟩; have HX9 := Lib.hid hx; have hS1 := P9.ext hx hS0; clear hx)))
        go_wp2_with fail
        go_ret
        exact ⟨false, rfl, HX.out.trans ((Below.drew (Ext.refl wr)).trans HX9.out), fun h => by cases h⟩
    · go_wp2_with fail
      go_ret
      refine ⟨true, rfl, HX.out, fun _ => ⟨by omega, fun a ha => HT.out a ?_⟩⟩
      rw [List.take_of_length_le (by have := HA.out.len; omega)]
      exact ha
end
section
open Go Go.RowKit
set_option maxHeartbeats 800000 in
theorem wnoop_any (w : World) : Calls Tryz.prog 91 #[] w fun e w' => e = .returned (.agg #[.int .u8 1, .int .i64 0, .int .i64 0, .int .u8 0, .string ByteArray.empty, .string ByteArray.empty, .string ByteArray.empty]) ∧ Ext w w' := by
  go_enter Tryz.func91, Tryz.ntmps91
  go_wp2_with fail
  refine bodyPost_ret (v := .agg #[.int .u8 1, .int .i64 0, .int .i64 0, .int .u8 0, .string ByteArray.empty, .string ByteArray.empty, .string ByteArray.empty]) (by simp [results, Tryz.results91, go_sem]; rfl) rfl ⟨rfl, (Ext.refl w).alloc _⟩
theorem cut_ld2 {w0 w : World} {d : Nat} {F : Nat → Prop} {g s : Nat} {r inc : Int} {m : DM} (h : LD w0 w d F g s r inc m) (n : Nat) (h1 : s ≤ n) (h2 : n ≤ 1099511627752) :
    Calls Tryz.prog 18 #[.pointer (some ⟨g, 0, none⟩), .int .i64 (n : Int)] w fun e w' => e = .returned (.int .i64 0) ∧ LD w0 w' d F g n r inc m ∧ Mod (fun k => k = g) w w' := by
  have hc : cutB s n = true := by unfold cutB inI; simp; omega
  have hq := wcut_of h.log (n : Int)
  rw [if_pos hc, if_pos hc, Int.toNat_natCast] at hq
  refine hq.mono fun e w' ⟨he, hl, hm⟩ => ⟨he, ⟨h.dk.mod hm (fun k hk hh => h.off (hh ▸ hk)) (fun k hk => hk ▸ h.low), hl, h.off, h.low⟩, hm⟩
theorem wnew_dk {w0 w : World} (hx : Ext w0 w) : Calls Tryz.prog 12 #[.int .i64 156] w fun e w' => ∃ d F, e = .returned (.tuple #[.pointer (some ⟨d, 0, none⟩), .int .i64 0]) ∧ DK w0 w' d F (DM.new 156) :=
  (new_pdk 156 w (by omega) (by omega)).mono fun e w' ⟨d, h1, h2, h3⟩ => ⟨d, _, h1, h2, fun k hk => Nat.le_trans hx.size hk.1, hx.trans h3⟩
theorem rpt_eql_self (ix : Int) (st : Nat) (x y : Int) (k : Nat) (cl sq : Int) (ok : Nat) (key old val : ByteArray) (w : World) :
    (binOp .eql 80 (.agg #[.int .i64 ix, .int .u8 (st : Int), .int .i64 x, .int .i64 y, .int .u8 (k : Int), .int .i64 cl, .int .i64 sq, .int .u8 (ok : Int), .string key, .string old, .string val]) (.agg #[.int .i64 ix, .int .u8 (st : Int), .int .i64 x, .int .i64 y, .int .u8 (k : Int), .int .i64 cl, .int .i64 sq, .int .u8 (ok : Int), .string key, .string old, .string val])).run Tryz.prog w = .ok (.bool true) w := by
  have hf : Tryz.prog.stoodInHeld 80 = false := by kernel_rfl
  have hu := Tryz.underlying80
  have hu1 := Tryz.underlying38
  have hu2 := Tryz.underlying42
  have hu3 := Tryz.underlying40
  rw [run_eql_struct, run_equalIn_agg _ _ _ _ _ (by rw [Program.fieldsOf, hu]) hf, Program.fieldsOf, hu]
  simp [Op.eqFields, go_sem]
abbrev AwC (w : World) (b c : Nat) : Prop := w.cell? ⟨b, 0, none⟩ = some (.int .i64 1) ∧ w.cell? ⟨b, 1, none⟩ = some (.int .u8 2) ∧ w.cell? ⟨b, 2, none⟩ = some (.int .i64 1) ∧ w.cell? ⟨b, 3, none⟩ = some (.int .i64 0) ∧ w.cell? ⟨b, 4, none⟩ = some (.int .u8 1) ∧ w.cell? ⟨b, 5, none⟩ = some (.int .i64 0) ∧ w.cell? ⟨b, 6, none⟩ = some (.int .i64 0) ∧ w.cell? ⟨b, 7, none⟩ = some (.int .u8 0) ∧ w.cell? ⟨b, 8, none⟩ = some (.string ByteArray.empty) ∧ w.cell? ⟨b, 9, none⟩ = some (.string ByteArray.empty) ∧ w.cell? ⟨b, 10, none⟩ = some (.string ByteArray.empty) ∧ w.cell? ⟨c, 0, none⟩ = some (.int .i64 25) ∧ w.cell? ⟨c, 1, none⟩ = some (.int .u8 1) ∧ w.cell? ⟨c, 2, none⟩ = some (.int .i64 0) ∧ w.cell? ⟨c, 3, none⟩ = some (.int .i64 0) ∧ w.cell? ⟨c, 4, none⟩ = some (.int .u8 0) ∧ w.cell? ⟨c, 5, none⟩ = some (.int .i64 0) ∧ w.cell? ⟨c, 6, none⟩ = some (.int .i64 0) ∧ w.cell? ⟨c, 7, none⟩ = some (.int .u8 0) ∧ w.cell? ⟨c, 8, none⟩ = some (.string ByteArray.empty) ∧ w.cell? ⟨c, 9, none⟩ = some (.string ByteArray.empty) ∧ w.cell? ⟨c, 10, none⟩ = some (.string ByteArray.empty)
theorem AwC.of {w : World} {b c : Nat} (ha : w.heap[b]? = some (.cells #[.int .i64 1, .int .u8 2, .int .i64 1, .int .i64 0, .int .u8 1, .int .i64 0, .int .i64 0, .int .u8 0, .string ByteArray.empty, .string ByteArray.empty, .string ByteArray.empty] 80 (0, 0))) (hc : w.heap[c]? = some (.cells #[.int .i64 25, .int .u8 1, .int .i64 0, .int .i64 0, .int .u8 0, .int .i64 0, .int .i64 0, .int .u8 0, .string ByteArray.empty, .string ByteArray.empty, .string ByteArray.empty] 80 (0, 0))) : AwC w b c := ⟨cell_of_row w b 0 _ _ _ ha, cell_of_row w b 1 _ _ _ ha, cell_of_row w b 2 _ _ _ ha, cell_of_row w b 3 _ _ _ ha, cell_of_row w b 4 _ _ _ ha, cell_of_row w b 5 _ _ _ ha, cell_of_row w b 6 _ _ _ ha, cell_of_row w b 7 _ _ _ ha, cell_of_row w b 8 _ _ _ ha, cell_of_row w b 9 _ _ _ ha, cell_of_row w b 10 _ _ _ ha, cell_of_row w c 0 _ _ _ hc, cell_of_row w c 1 _ _ _ hc, cell_of_row w c 2 _ _ _ hc, cell_of_row w c 3 _ _ _ hc, cell_of_row w c 4 _ _ _ hc, cell_of_row w c 5 _ _ _ hc, cell_of_row w c 6 _ _ _ hc, cell_of_row w c 7 _ _ _ hc, cell_of_row w c 8 _ _ _ hc, cell_of_row w c 9 _ _ _ hc, cell_of_row w c 10 _ _ _ hc⟩
theorem AwC.ext {w w' : World} {b c : Nat} (hx : Ext w w') (h : AwC w b c) : AwC w' b c := by
  obtain ⟨a0, a1, a2, a3, a4, a5, a6, a7, a8, a9, a10, a11, a12, a13, a14, a15, a16, a17, a18, a19, a20, a21⟩ := h
  exact ⟨ext_of_cell hx a0, ext_of_cell hx a1, ext_of_cell hx a2, ext_of_cell hx a3, ext_of_cell hx a4, ext_of_cell hx a5, ext_of_cell hx a6, ext_of_cell hx a7, ext_of_cell hx a8, ext_of_cell hx a9, ext_of_cell hx a10, ext_of_cell hx a11, ext_of_cell hx a12, ext_of_cell hx a13, ext_of_cell hx a14, ext_of_cell hx a15, ext_of_cell hx a16, ext_of_cell hx a17, ext_of_cell hx a18, ext_of_cell hx a19, ext_of_cell hx a20, ext_of_cell hx a21⟩
set_option maxHeartbeats 1600000 in
theorem wawake_any (w0 w : World) (hx : Ext w0 w) (hL : LaidF w0 ∧ LaidS w0) : Calls Tryz.prog 28 #[] w fun e w' => e = .returned (.bool true) ∧ Ext w0 w' := by
  obtain ⟨m1, e1, c1, z1, r1, z2, z3, r3, z4⟩ := awake_plain
  have hfew : m1.waits.length ≤ 1000000 := by rw [c1.b.waits]; simp
  have HL := Lib.hid hL
  have HX := Lib.hid hx
  have HP := Lib.hid e1
  have HZ := Lib.hid (And.intro z1 (And.intro r1 (And.intro z2 (And.intro z3 (And.intro r3 (And.intro z4 hfew))))))
  clear hL hx e1 c1 z1 r1 z2 z3 r3 z4 hfew
  go_enter Tryz.func28, Tryz.ntmps28
  go_wp2_with fail
  refine (wnew_dk HX.out).mono ?_
  rintro e w1 ⟨d, F1, rfl, hk⟩
  have HK := Lib.hid hk
  clear hk
  go_wp2_with fail
  have hst : Calls Tryz.prog 14 #[.pointer (some ⟨d, 0, none⟩), .int .i64 3, .int .i64 1, .int .i64 0] w1 fun e w' => ∃ g, e = .returned (.tuple #[.pointer (some ⟨g, 0, none⟩), .int .i64 0]) ∧ LD w0 w' d F1 g 0 3 1 (DM.new 156) := open_ld HK.out HL.out.1 3 1 0 (by decide)
  refine hst.mono ?_
  rintro e w2 ⟨g, rfl, hk⟩
  have HK := Lib.hid hk
  clear hk hst
  go_wp2_with fail
  refine (wnoop_any _).mono ?_
  rintro e w3 ⟨rfl, hx⟩
  have HK := Lib.hid (HK.out.ext hx)
  clear hx
  go_wp2_with fail
  have hst : Calls Tryz.prog 16 #[.pointer (some ⟨g, 0, none⟩), .int .i64 1, .agg #[.int .i64 1, .int .i64 0], .agg #[.int .u8 1, .int .i64 0, .int .i64 0, .int .u8 0, .string ByteArray.empty, .string ByteArray.empty, .string ByteArray.empty]] w3 fun e w' => e = .returned (.int .i64 0) ∧ ∃ F', LD w0 w' d F' g 0 3 1 m1 := put_ld HK.out HL.out.1 HL.out.2 (by omega) (by omega) (by omega) 1 1 0 noopE (by decide) (by decide) 0 HP.out
  refine hst.mono ?_
  rintro e w4 ⟨rfl, F2, hk⟩
  have HK := Lib.hid hk
  clear hk hst
  go_wp2_with fail
  have hst : Calls Tryz.prog 30 #[.pointer (some ⟨g, 0, none⟩), .int .i64 1] w4 fun e w' => e = .returned (.tuple #[.agg #[.int .i64 1, .int .u8 2, .int .i64 1, .int .i64 0, .int .u8 1, .int .i64 0, .int .i64 0, .int .u8 0, .string ByteArray.empty, .string ByteArray.empty, .string ByteArray.empty], .int .i64 0]) ∧ Ext w4 w' := get_ld HK.out HL.out.1 HL.out.2 (by omega) 1 HZ.out.2.2.2.2.2.2 _ 0 HZ.out.2.1 HZ.out.1
  refine hst.mono ?_
  rintro e w5 ⟨rfl, hx⟩
  have HK := Lib.hid (HK.out.ext hx)
  clear hx hst
  go_wp2_with fail
  have hra := heap_alloc_new w5 (.cells #[.int .i64 1, .int .u8 2, .int .i64 1, .int .i64 0, .int .u8 1, .int .i64 0, .int .i64 0, .int .u8 0, .string ByteArray.empty, .string ByteArray.empty, .string ByteArray.empty] 80)
  have hlt : g < w5.heap.size := HK.out.log.lt
  have hk := HK.out.ext ((Ext.refl w5).alloc (.cells #[.int .i64 1, .int .u8 2, .int .i64 1, .int .i64 0, .int .u8 1, .int .i64 0, .int .i64 0, .int .u8 0, .string ByteArray.empty, .string ByteArray.empty, .string ByteArray.empty] 80))
  generalize w5.alloc (.cells #[.int .i64 1, .int .u8 2, .int .i64 1, .int .i64 0, .int .u8 1, .int .i64 0, .int .i64 0, .int .u8 0, .string ByteArray.empty, .string ByteArray.empty, .string ByteArray.empty] 80) = V5 at hra hk ⊢
  generalize w5.heap.size = b5 at hra hlt ⊢
  have HA := Lib.hid hra
  have HK := Lib.hid hk
  have HG := Lib.hid hlt
  clear hra hk hlt
  obtain ⟨R8, hR8⟩ : ∃ R8, m1.lkR 0 3 25 = R8 := ⟨_, rfl⟩
  have hst : Calls Tryz.prog 30 #[.pointer (some ⟨g, 0, none⟩), .int .i64 25] V5 fun e w' => e = .returned (.tuple #[.agg #[.int .i64 R8.ix, .int .u8 (R8.st : Int), .int .i64 R8.x, .int .i64 R8.y, .int .u8 (R8.e.k : Int), .int .i64 R8.e.cl, .int .i64 R8.e.sq, .int .u8 (R8.e.ok : Int), .string R8.e.key, .string R8.e.old, .string R8.e.val], .int .i64 2]) ∧ Ext V5 w' := get_ld HK.out HL.out.1 HL.out.2 (by omega) 25 HZ.out.2.2.2.2.2.2 R8 2 hR8 HZ.out.2.2.1
  refine hst.mono ?_
  rintro e w6 ⟨rfl, hx⟩
  have HK := Lib.hid (HK.out.ext hx)
  have HA := Lib.hid (keep_row hx HA.out)
  clear hx hst hR8
  go_wp2_with fail
  have hx := (Ext.refl w6).alloc (.cells #[.int .i64 R8.ix, .int .u8 (R8.st : Int), .int .i64 R8.x, .int .i64 R8.y, .int .u8 (R8.e.k : Int), .int .i64 R8.e.cl, .int .i64 R8.e.sq, .int .u8 (R8.e.ok : Int), .string R8.e.key, .string R8.e.old, .string R8.e.val] 80)
  have HK := Lib.hid (HK.out.ext hx)
  have HA := Lib.hid (keep_row hx HA.out)
  clear hx
  generalize w6.alloc (.cells #[.int .i64 R8.ix, .int .u8 (R8.st : Int), .int .i64 R8.x, .int .i64 R8.y, .int .u8 (R8.e.k : Int), .int .i64 R8.e.cl, .int .i64 R8.e.sq, .int .u8 (R8.e.ok : Int), .string R8.e.key, .string R8.e.old, .string R8.e.val] 80) = V6 at HK HA ⊢
  have hst : Calls Tryz.prog 18 #[.pointer (some ⟨g, 0, none⟩), .int .i64 8] V6 fun e w' => e = .returned (.int .i64 0) ∧ (∃ F', LD w0 w' d F' g 8 3 1 m1) ∧ Mod (fun k => k = g) V6 w' := (cut_ld2 HK.out 8 (by omega) (by omega)).mono fun e w' h => ⟨h.1, ⟨_, h.2.1⟩, h.2.2⟩
  refine hst.mono ?_
  rintro e w7 ⟨rfl, ⟨F3, hk⟩, hm⟩
  have HK := Lib.hid hk
  have HA := Lib.hid (heap_mod HA.out hm (by have := HG.out; omega))
  clear hk hm hst
  go_wp2_with fail
  have hst : Calls Tryz.prog 30 #[.pointer (some ⟨g, 0, none⟩), .int .i64 25] w7 fun e w' => e = .returned (.tuple #[.agg #[.int .i64 25, .int .u8 1, .int .i64 0, .int .i64 0, .int .u8 0, .int .i64 0, .int .i64 0, .int .u8 0, .string ByteArray.empty, .string ByteArray.empty, .string ByteArray.empty], .int .i64 0]) ∧ Ext w7 w' := get_ld HK.out HL.out.1 HL.out.2 (by omega) 25 HZ.out.2.2.2.2.2.2 _ 0 HZ.out.2.2.2.2.1 HZ.out.2.2.2.1
  refine hst.mono ?_
  rintro e w8 ⟨rfl, hx⟩
  have HK := Lib.hid (HK.out.ext hx)
  have HA := Lib.hid (keep_row hx HA.out)
  clear hx hst
  go_wp2_with fail
  have hra := heap_alloc_new w8 (.cells #[.int .i64 25, .int .u8 1, .int .i64 0, .int .i64 0, .int .u8 0, .int .i64 0, .int .i64 0, .int .u8 0, .string ByteArray.empty, .string ByteArray.empty, .string ByteArray.empty] 80)
  have hx := (Ext.refl w8).alloc (.cells #[.int .i64 25, .int .u8 1, .int .i64 0, .int .i64 0, .int .u8 0, .int .i64 0, .int .i64 0, .int .u8 0, .string ByteArray.empty, .string ByteArray.empty, .string ByteArray.empty] 80)
  have HK := Lib.hid (HK.out.ext hx)
  have HA := Lib.hid (keep_row hx HA.out)
  clear hx
  generalize w8.alloc (.cells #[.int .i64 25, .int .u8 1, .int .i64 0, .int .i64 0, .int .u8 0, .int .i64 0, .int .i64 0, .int .u8 0, .string ByteArray.empty, .string ByteArray.empty, .string ByteArray.empty] 80) = V8 at hra HK HA ⊢
  generalize w8.heap.size = b10 at hra ⊢
  have HC := Lib.hid hra
  clear hra
  obtain ⟨R9, hR9⟩ : ∃ R9, m1.lkR 8 3 8 = R9 := ⟨_, rfl⟩
  have hst : Calls Tryz.prog 30 #[.pointer (some ⟨g, 0, none⟩), .int .i64 8] V8 fun e w' => e = .returned (.tuple #[.agg #[.int .i64 R9.ix, .int .u8 (R9.st : Int), .int .i64 R9.x, .int .i64 R9.y, .int .u8 (R9.e.k : Int), .int .i64 R9.e.cl, .int .i64 R9.e.sq, .int .u8 (R9.e.ok : Int), .string R9.e.key, .string R9.e.old, .string R9.e.val], .int .i64 2]) ∧ Ext V8 w' := get_ld HK.out HL.out.1 HL.out.2 (by omega) 8 HZ.out.2.2.2.2.2.2 R9 2 hR9 HZ.out.2.2.2.2.2.1
  refine hst.mono ?_
  rintro e w9 ⟨rfl, hx⟩
  have HK := Lib.hid (HK.out.ext hx)
  have HA := Lib.hid (keep_row hx HA.out)
  have HC := Lib.hid (keep_row hx HC.out)
  clear hx hst hR9
  go_upto_region 12 with (fail)
  have hx := (Ext.refl w9).alloc (.cells #[.int .i64 R9.ix, .int .u8 (R9.st : Int), .int .i64 R9.x, .int .i64 R9.y, .int .u8 (R9.e.k : Int), .int .i64 R9.e.cl, .int .i64 R9.e.sq, .int .u8 (R9.e.ok : Int), .string R9.e.key, .string R9.e.old, .string R9.e.val] 80)
  have HK := Lib.hid (HK.out.ext hx)
  have HA := Lib.hid (keep_row hx HA.out)
  have HC := Lib.hid (keep_row hx HC.out)
  clear hx
  generalize w9.alloc (.cells #[.int .i64 R9.ix, .int .u8 (R9.st : Int), .int .i64 R9.x, .int .i64 R9.y, .int .u8 (R9.e.k : Int), .int .i64 R9.e.cl, .int .i64 R9.e.sq, .int .u8 (R9.e.ok : Int), .string R9.e.key, .string R9.e.old, .string R9.e.val] 80) = V9 at HK HA HC ⊢
  have hq1 := fun W => rpt_eql_self 1 2 1 0 1 0 0 0 ByteArray.empty ByteArray.empty ByteArray.empty W
  have hq2 := fun W => rpt_eql_self 25 1 0 0 0 0 0 0 ByteArray.empty ByteArray.empty ByteArray.empty W
  have hS0 : AwC V9.drew b5 b10 := AwC.of HA.out HC.out
  go_region_held3 (fun w' => AwC w' b5 b10)
    (first | with_reducible exact hS0 | with_reducible exact hS1 | with_reducible assumption)
    (first
      | (go_at_call 91; ((with_reducible refine (wnoop_any _).mono ?_); rintro e' w' ⟨rfl, hx⟩; have HX9 := Lib.hid hx; have hS1 := AwC.ext hx hS0; clear hx)))
  go_wp2_with fail
  go_ret
  exact ⟨rfl, (HK.out.ext ((Below.drew (Ext.refl V9)).trans HX9.out)).dk.bel⟩
end
section
open Go Go.RowKit
theorem flat_get {α : Type} {cells : α → List Value} {N : Nat} (hN : ∀ a, (cells a).length = N) (h0 : 0 < N) : ∀ (l : List α) (k j : Nat), j < N → (l.flatMap cells)[k * N + j]? = (l[k]?).bind fun a => (cells a)[j]?
  | [], k, j, _ => by simp
  | a :: l, 0, j, hj => by
    rw [List.flatMap_cons, List.getElem?_append_left (by rw [hN]; omega)]
    simp
  | a :: l, k + 1, j, hj => by
    rw [List.flatMap_cons, List.getElem?_append_right (by rw [hN, Nat.succ_mul]; omega), hN, show (k + 1) * N + j - N = k * N + j by rw [Nat.succ_mul]; omega, flat_get hN h0 l k j hj]
    simp
theorem flat_len {α : Type} {cells : α → List Value} {N : Nat} (hN : ∀ a, (cells a).length = N) : ∀ l : List α, (l.flatMap cells).length = l.length * N
  | [] => by simp
  | a :: l => by rw [List.flatMap_cons, List.length_append, hN, flat_len hN l, List.length_cons, Nat.succ_mul]; omega
theorem Ls.news {α : Type} {cells : α → List Value} {N : Nat} {w : World} {B : Nat} {ad : Addr} {n c : Nat} {l : List α} (hN : ∀ a, (cells a).length = N) (h0 : 0 < N) (h : Ls cells N w B (some ad) n c l) : ∀ j u, (l.flatMap cells)[j]? = some u → w.cell? (ad.add j) = some u := by
  intro j u hu
  have hj : j < (l.flatMap cells).length := (List.getElem?_eq_some_iff.1 hu).1
  rw [flat_len hN, h.len] at hj
  have hn : 0 < n := by
    rcases Nat.eq_zero_or_pos n with e | e
    · subst e; omega
    · exact e
  obtain ⟨g, o, hA, _, hc⟩ := h.rd hn
  injection hA with hA
  subst hA
  have e : j / N * N + j % N = j := by rw [Nat.mul_comm]; exact Nat.div_add_mod j N
  rw [← e, flat_get hN h0 l _ _ (Nat.mod_lt _ h0)] at hu
  obtain ⟨a, ha, hv⟩ := Option.bind_eq_some_iff.1 hu
  have := hc _ a ha _ u hv
  rw [e] at this
  rw [Addr.add_lit]
  exact this
theorem Ls.of_own {α : Type} {cells : α → List Value} {N : Nat} {w : World} {B : Nat} {e : TypeId} {v : Value} {l : List α} (hN : ∀ a, (cells a).length = N) (h0 : 0 < N) (h : w.ownsRow B e N v l.length (l.flatMap cells)) : ∃ A c, v = .slice A l.length c ∧ Ls cells N w w.heap.size A l.length c l := by
  rcases h.2 with ⟨rfl, hz⟩ | ⟨g, cap, cur, rfl, hB, hg, hn, hm, hs, ht⟩
  · have hl : l = [] := List.length_eq_zero_iff.1 hz
    subst hl
    exact ⟨none, 0, rfl, ⟨rfl, Nat.le_refl _, by omega, fun h => absurd h (by simp), fun _ => rfl⟩⟩
  · refine ⟨some ⟨g, 0, none⟩, cap, rfl, ⟨rfl, hn, by unfold maxLen at hm; exact hm, fun _ => ⟨g, 0, rfl, (Array.getElem?_eq_some_iff.1 hg).1, fun j a ha k x hx => ?_⟩, fun e => by cases e⟩⟩
    have hk : k < N := by have := (List.getElem?_eq_some_iff.1 hx).1; rw [hN] at this; exact this
    have hjl : j < l.length := (List.getElem?_eq_some_iff.1 ha).1
    have hf := flat_get hN h0 l j k hk
    rw [ha] at hf
    have hx2 : (l.flatMap cells)[j * N + k]? = some x := by rw [hf]; exact hx
    have hlt : j * N + k < l.length * N := by
      have : (j + 1) * N ≤ l.length * N := Nat.mul_le_mul_right _ hjl
      rw [Nat.succ_mul] at this
      omega
    rw [Nat.zero_add, cell_of_row w g _ _ _ _ hg, ← hx2, ← ht, List.getElem?_take_of_lt hlt, Array.getElem?_toList]
theorem row_grown {w w' : World} {row : Option Nat} {k : Nat} {o : Obj} (h : w.heap[k]? = some o) (hg : w.grownBy w' row) (hne : some k ≠ row) : w'.heap[k]? = some o := (hg.block k (Array.getElem?_eq_some_iff.1 h).1 hne).trans h
theorem ownsRow_extL {w w' : World} {b e sz n : Nat} {v : Value} {xs : List Value} (h : w.ownsRow b e sz v n xs) (k : Ext w w') : w'.ownsRow b e sz v n xs := own_mod h (Mod.of_ext (F := fun _ => False) k) fun _ _ hf => hf
theorem Ls.of_row {α : Type} {cells : α → List Value} {N : Nat} {w : World} {B n : Nat} {e : TypeId} {v : Value} {l : List α} (hN : ∀ a, (cells a).length = N) (h0 : 0 < N) (hl : l.length = n) (h : w.ownsRow B e N v n (l.flatMap cells)) : ∃ A c, v = .slice A n c ∧ Ls cells N w w.heap.size A n c l := by
  subst hl
  exact Ls.of_own hN h0 h
theorem ls_one {α : Type} {cells : α → List Value} {N : Nat} {w : World} {b : Nat} {cs : Array Value} {t : TypeId} (a : α) (ha : cells a = cs.toList) (h : w.heap[b]? = some (.cells cs t (0, 0))) : Ls cells N w w.heap.size (some ⟨b, 0, none⟩) 1 1 [a] := by
  refine ⟨rfl, Nat.le_refl _, by omega, fun _ => ⟨b, 0, rfl, (Array.getElem?_eq_some_iff.1 h).1, fun j x hx k v hv => ?_⟩, fun e => by cases e⟩
  cases j with
  | zero =>
    simp only [List.getElem?_cons_zero, Option.some.injEq] at hx
    subst hx
    rw [ha, Array.getElem?_toList] at hv
    rw [Nat.zero_mul, Nat.zero_add, Nat.zero_add, cell_of_row w b k _ _ _ h, hv]
  | succ j => simp at hx
theorem wp_append_ls {α : Type} {cells : α → List Value} {N : Nat} (hN : ∀ a, (cells a).length = N) (h0 : 0 < N) (h1 : ∀ a, ∀ u ∈ cells a, u.oneCell' = true) {P : Program} {w : World} {o : Oper} {a : Act} {K : Act → World → Prop} {Q : Exit → Act → World → Prop} (s x : Operand) (t : TypeId)
    (ho : o.op = .call { callee := .builtin .append, args := #[s, x], argTypes := #[t, t] })
    (base : Nat) (e : TypeId) (i : TypeInfo) (z : Value) (bytes : Nat) (ht : P.underlying t = some (.slice e)) (hi : P.info? e = some i) (hz : i.zero = some z) (hsize : i.size = N) (hby : i.bytes = bytes) (hzs : z.cells.size = N)
    (v : Value) (n : Nat) (xs : List Value) (hs : a.eval s = v) (hown : w.ownsRow base e N v n xs) (B : Nat) (A : Option Addr) (m c : Nat) (l : List α) (hx : a.eval x = .slice A m c) (hl : Ls cells N w B A m c l)
    (h63 : n + m ≤ maxLen) (hbytes : (n + m) * bytes ≤ 140737488355328) (hbase : base ≤ w.heap.size)
    (h : ∀ v' w', w'.ownsRow base e N v' (n + m) (xs ++ l.flatMap cells) → w.grownBy w' v.ownBlock → K (a.put o.dst v') w') : o.wp P a w K Q := by
  cases A with
  | none =>
    have hc := hl.nil_ rfl
    have hm : m = 0 := by have := hl.cap; omega
    subst hc hm
    have hl0 : l = [] := List.eq_nil_of_length_eq_zero hl.len
    subst hl0
    have hrun := run_append_owned_none (P := P) (w := w) base t o.type e i N ht hi v n xs hown
    unfold Oper.wp
    simp [execOp, ho, resolve, invoke, builtin, hs, hx, hrun, Result.andThen]
    exact h v w (by simpa using hown) (World.grownBy.refl _ _)
  | some ad =>
    exact wp_append_own w s x t ho base e i z N bytes ht hi hz hsize hby hzs h0 v n xs hs hown ad m c (l.flatMap cells) hx (by rw [flat_len hN, hl.len]) (hl.news hN h0) (fun u hu => by
      obtain ⟨b, _, hb⟩ := List.mem_flatMap.1 hu
      exact h1 b u hb) h63 hbytes hbase fun v' w' h2 h3 _ => h v' w' h2 h3
end
section
open Go Go.RowKit
theorem rpt_neq_self (ix : Int) (st : Nat) (x y : Int) (k : Nat) (cl sq : Int) (ok : Nat) (key old val : ByteArray) (w : World) :
    (binOp .neq 80 (.agg #[.int .i64 ix, .int .u8 (st : Int), .int .i64 x, .int .i64 y, .int .u8 (k : Int), .int .i64 cl, .int .i64 sq, .int .u8 (ok : Int), .string key, .string old, .string val]) (.agg #[.int .i64 ix, .int .u8 (st : Int), .int .i64 x, .int .i64 y, .int .u8 (k : Int), .int .i64 cl, .int .i64 sq, .int .u8 (ok : Int), .string key, .string old, .string val])).run Tryz.prog w = .ok (.bool false) w := by
  have hf : Tryz.prog.stoodInHeld 80 = false := by kernel_rfl
  have hu := Tryz.underlying80
  have hu1 := Tryz.underlying38
  have hu2 := Tryz.underlying42
  have hu3 := Tryz.underlying40
  rw [run_neq_struct, run_equalIn_agg _ _ _ _ _ (by rw [Program.fieldsOf, hu]) hf, Program.fieldsOf, hu]
  simp [Op.eqFields, go_sem]
end
end Go.Proofs.YtmbmpabjclkhlaaGreatDoor
