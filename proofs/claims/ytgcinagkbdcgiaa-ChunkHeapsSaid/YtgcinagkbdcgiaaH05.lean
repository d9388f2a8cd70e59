/-
  Both heaps side by side: the program's and the document's, with what each holds; acts at either keep the other.
-/
import Derived.Test.YtgcinagkbdcgiaaH00
import Derived.Test.YtgcinagkbdcgiaaH04
namespace Go.Proofs.Ytgcinagkbdcgiaa
set_option maxRecDepth 100000
section
open Go Go.RowKit Go.Maps
set_option maxHeartbeats 800000 in
theorem zput_own {w : World} {h count bm nb : Nat} {f : Int → Option Lst} (z : ZH w h count bm nb f) (hnb : nb ≤ 1000) (k : Int) (A : Option Addr) (n c : Nat) (l : List Nat) (hb : By w A n c l) (hf : fitsZ k count n = true) :
    Calls Try.prog 14 #[.pointer (some ⟨h, 0, none⟩), .int .i64 k, .slice A n c] w fun e w' => e = .returned (.int .i64 0) ∧ ∃ a : Lst, a.l = l ∧ ZH w' h count bm (nb + 1) (updZ f k (some a)) ∧ Mod (fun i => i = bm) w w' ∧ ∀ p, a.A = some p → w.heap.size ≤ p.block := by
  have HM := Lib.hid (zmade_yes h w z.cells.1)
  have hy := zmay_of count z.cnt k A n c w
  rw [hf] at hy
  have HY := Lib.hid hy
  have hk : 0 ≤ k ∧ k < (count : Int) ∧ n ≤ 80 := by
    rw [fitsZ_eq z.cnt, Bool.and_eq_true, inZ_iff, inZ_iff] at hf
    omega
  obtain ⟨hk0, hkc, hn80⟩ := hk
  have hwf : (Lit.int .i64 k).wf = true := WalkArith.wf_i64 (by have := z.cnt; omega)
  have HCL := Lib.hid (sclone_by A l n c w.drew (hb.ext (Ext.refl w).drew) (by omega))
  have HST := Lib.hid (fun (V : World) (hV : MapZ V bm nb f) (a : Lst) => hV.store hwf (by unfold maxLen; omega) a)
  obtain ⟨c0, c1, c2⟩ := z.cells
  have HZ := Lib.hid z
  have hS0 : w.drew.cell? ⟨h, 2, none⟩ = some (.map (some bm)) := c2
  clear hf hy z hb
  go_enter Try.func14, Try.ntmps14
  go_wp2_with fail
  refine HM.out.mono ?_
  rintro e w1 ⟨rfl, rfl⟩
  go_wp2_with fail
  refine HY.out.mono ?_
  rintro e w1 ⟨rfl, rfl⟩
  go_wp2_with fail
  go_region_held3 (fun w' => w'.cell? ⟨h, 2, none⟩ = some (.map (some bm)))
    (first | with_reducible exact hS0 | with_reducible exact hS1 | with_reducible exact hS2 | with_reducible assumption)
    (first
      | (go_at_call 38; ((with_reducible refine HCL.out.mono ?_); rintro e' w3 ⟨A', c', rfl, hby, hx, hown⟩; have HX := Lib.hid (Ext.trans (Ext.refl w).drew hx); have HBY := Lib.hid hby; have HFR := Lib.hid (own_fresh hown); have hS1 := ext_cellZ2 hx hS0; obtain ⟨w4, hrun, hmz, htn⟩ := HST.out w3 (HZ.out.map.ext HX.out) ⟨A', n, c', l⟩; have hS2 := mod_cellZ (turned_mod htn) HZ.out.ne hS1; have HMZ := Lib.hid hmz; have HTN := Lib.hid htn; clear hby hx hown hmz htn)))
  go_wp2_with fail
  go_ret
  refine ⟨rfl, ⟨A', n, c', l⟩, rfl, HZ.out.put ⟨hk0, hkc⟩ HX.out HBY.out hn80 (fun p hp => (HFR.out p hp).1) HMZ.out HTN.out, ?_⟩
  exact ⟨(Mod.of_ext HX.out).trans (turned_mod HTN.out) fun i hi => .inl hi, fun p hp => (HFR.out p hp).1⟩
theorem by_modZ {F : Nat → Prop} {w w' : World} {A : Option Addr} {n c : Nat} {l : List Nat} (h : By w A n c l) (k : Mod F w w') (ho : ∀ p, A = some p → 0 < n → ¬ F p.block) : By w' A n c l := by
  cases l with
  | nil => exact ⟨h.len, h.cap, h.most, Rd.nil_, Bs.nil_ h⟩
  | cons x l =>
    have hn : 0 < n := by rw [← h.len]; simp
    exact By.mod h k fun p hp => ho p hp hn
theorem by_first {w : World} {A : Option Addr} {n c : Nat} {l : List Nat} (h : By w A n c l) {p : Addr} (hp : A = some p) (hn : 0 < n) : p.block < w.heap.size ∧ ∃ (o x : Nat), w.cell? ⟨p.block, o, none⟩ = some (.int .u8 ((x : Nat) : Int)) := by
  have hl := h.len
  obtain ⟨g, o, hA, hlt, hc⟩ := h.rd.2 (by omega)
  rw [hp] at hA
  injection hA with hA
  subst hA
  exact ⟨hlt, o + 0, _, hc 0 _ (List.getElem?_eq_getElem (by omega))⟩
theorem rowC_not {w : World} {g o x n : Nat} {t : TypeId} {fr : Nat × Nat} (d : Nat → Value) (hd : ∀ k, ∀ x : Nat, d k ≠ .int .u8 ((x : Nat) : Int)) (h : w.heap[g]? = some (.cells ((List.range n).map d).toArray t fr)) (hc : w.cell? ⟨g, o, none⟩ = some (.int .u8 ((x : Nat) : Int))) : False := by
  rw [cell_of_row w g o _ _ _ h, List.getElem?_toArray, List.getElem?_map] at hc
  cases hq : (List.range n)[o]? with
  | none => rw [hq] at hc; cases hc
  | some b =>
    rw [hq] at hc
    injection hc with hc
    exact hd _ _ hc
section
variable {w w' : World} {h count bm nb y gt gl : Nat} {f fr : Int → Option Lst}
theorem ZH.modZ {F : Nat → Prop} (z : ZH w h count bm nb f) (hm : Mod F w w') (h1 : ¬ F h) (h2 : ¬ F bm) (h3 : ∀ k a, f k = some a → ∀ p, a.A = some p → 0 < a.n → ¬ F p.block) : ZH w' h count bm nb f :=
  ⟨heap_mod z.row hm h1, z.map.mod hm h2, z.rng, fun k a ha => ⟨by_modZ (z.each k a ha).1 hm (h3 k a ha), (z.each k a ha).2⟩, z.cnt⟩
theorem RZ.modZ {F : Nat → Prop} (z : RZ w y gt gl count f) (hm : Mod F w w') (h1 : ¬ F y) (h2 : ¬ F gt) (h3 : ¬ F gl) (h4 : ∀ k a, f k = some a → ∀ p, a.A = some p → 0 < a.n → ¬ F p.block) : RZ w' y gt gl count f :=
  ⟨heap_mod z.box hm h1, heap_mod z.there hm h2, heap_mod z.lst hm h3, z.rng, fun k a ha => ⟨by_modZ (z.each k a ha).1 hm (h4 k a ha), (z.each k a ha).2⟩, z.ne, z.cnt⟩
theorem RZ.not_list (r : RZ w y gt gl count fr) {A : Option Addr} {n c : Nat} {l : List Nat} (hb : By w A n c l) {p : Addr} (hp : A = some p) (hn : 0 < n) : ¬ (p.block = gt ∨ p.block = gl) := by
  obtain ⟨_, o, x, hc⟩ := by_first hb hp hn
  rintro (e | e)
  · rw [e] at hc
    exact rowC_not (fun k : Nat => Value.bool (fr (k : Int)).isSome) (fun k x e => by cases e) r.there hc
  · rw [e] at hc
    exact rowC_not (fun k : Nat => optV (fr (k : Int))) (fun k x e => by
      cases hf : fr (k : Int) with
      | none => rw [hf] at e; cases e
      | some a => rw [hf] at e; cases e) r.lst hc
theorem ZH.not_list (z : ZH w h count bm nb f) {A : Option Addr} {n c : Nat} {l : List Nat} (hb : By w A n c l) {p : Addr} (hp : A = some p) (hn : 0 < n) : ¬ p.block = bm := fun e => by
  obtain ⟨_, o, x, hc⟩ := by_first hb hp hn
  obtain ⟨D, ⟨es, clock, hm, _⟩, _⟩ := z.map.own
  rw [e] at hc
  simp [World.cell?, hm] at hc
theorem ZH.apart (z : ZH w h count bm nb f) (r : RZ w y gt gl count fr) : (h ≠ gt ∧ h ≠ gl) ∧ (bm ≠ y ∧ bm ≠ gt ∧ bm ≠ gl) := by
  obtain ⟨D, ⟨es, clock, hm, _⟩, _⟩ := z.map.own
  have h0 := z.row
  refine ⟨⟨fun e => ?_, fun e => ?_⟩, fun e => ?_, fun e => ?_, fun e => ?_⟩
  · rw [e, r.there] at h0
    injection h0 with h0
    injection h0 with _ h0 _
    cases h0
  · rw [e, r.lst] at h0
    injection h0 with h0
    injection h0 with _ h0 _
    cases h0
  · rw [e, r.box] at hm
    cases hm
  · rw [e, r.there] at hm
    cases hm
  · rw [e, r.lst] at hm
    cases hm
theorem ZH.keepR (z : ZH w h count bm nb f) (r : RZ w y gt gl count fr) (hm : Mod (fun i => i = gt ∨ i = gl) w w') : ZH w' h count bm nb f := by
  obtain ⟨⟨a1, a2⟩, a3, a4, a5⟩ := z.apart r
  exact z.modZ hm (fun e => e.elim a1 a2) (fun e => e.elim a4 a5) fun k a ha p hp hn => r.not_list (z.each k a ha).1 hp hn
theorem RZ.keepZ (r : RZ w y gt gl count fr) (z : ZH w h count bm nb f) (hm : Mod (fun i => i = bm) w w') : RZ w' y gt gl count fr := by
  obtain ⟨_, a3, a4, a5⟩ := z.apart r
  exact r.modZ hm (fun e => a3 e.symm) (fun e => a4 e.symm) (fun e => a5 e.symm) fun k a ha p hp hn => z.not_list (r.each k a ha).1 hp hn
end
structure HP (w0 w : World) (h count bm y gt gl m : Nat) (f fr : Int → Option Lst) : Prop where
  z : ∃ nb, nb ≤ m ∧ ZH w h count bm nb f
  r : RZ w y gt gl count fr
  ext : Ext w0 w
  lo : w0.heap.size ≤ h ∧ w0.heap.size ≤ bm ∧ w0.heap.size ≤ y ∧ w0.heap.size ≤ gt ∧ w0.heap.size ≤ gl
def SameH (f fr : Int → Option Lst) : Prop := ∀ k, (f k).map Lst.l = (fr k).map Lst.l
section
variable {w0 w w' : World} {h count bm y gt gl m : Nat} {f fr : Int → Option Lst}
theorem HP.keep (H : HP w0 w h count bm y gt gl m f fr) (hx : Ext w w') : HP w0 w' h count bm y gt gl m f fr :=
  ⟨H.z.imp fun _ hh => ⟨hh.1, hh.2.ext hx⟩, H.r.ext hx, H.ext.trans hx, H.lo⟩
theorem HP.more (H : HP w0 w h count bm y gt gl m f fr) {m' : Nat} (hm : m ≤ m') : HP w0 w h count bm y gt gl m' f fr :=
  ⟨H.z.imp fun _ hh => ⟨by omega, hh.2⟩, H.r, H.ext, H.lo⟩
theorem HP.lt (H : HP w0 w h count bm y gt gl m f fr) : h < w.heap.size ∧ bm < w.heap.size ∧ y < w.heap.size ∧ gt < w.heap.size ∧ gl < w.heap.size := by
  obtain ⟨nb, _, z⟩ := H.z
  exact ⟨z.lt, z.map.lt, H.r.lt⟩
theorem ext_modZ {F : Nat → Prop} (hx : Ext w0 w) (hm : Mod F w w') (hF : ∀ i, F i → w0.heap.size ≤ i) : Ext w0 w' := by
  have : Mod F w0 w' := (Mod.of_ext (F := F) hx).trans hm fun i hi => .inl hi
  exact this.to_ext hF
theorem hp_lose (H : HP w0 w h count bm y gt gl m f fr) (k : Int) (hf : inZ 0 k ((count : Int) - 1) = true) :
    Calls Try.prog 11 #[.pointer (some ⟨h, 0, none⟩), .int .i64 k] w fun e w' => e = .returned (.int .i64 0) ∧ HP w0 w' h count bm y gt gl m (updZ f k none) fr := by
  obtain ⟨nb, hnb, z⟩ := H.z
  refine (zlose_yes z k hf).mono ?_
  rintro e w' ⟨rfl, z', hm⟩
  exact ⟨rfl, ⟨nb, hnb, z'⟩, H.r.keepZ z hm, ext_modZ H.ext hm fun i hi => by have := H.lo; omega, H.lo⟩
theorem hp_rlose (H : HP w0 w h count bm y gt gl m f fr) (k : Nat) (hk : k < count) :
    Calls Try.prog 12 #[.pointer (some ⟨y, 0, none⟩), .int .i64 (k : Int)] w fun e w' => e = .returned (.int .i64 0) ∧ HP w0 w' h count bm y gt gl m f (updZ fr (k : Int) none) := by
  obtain ⟨nb, hnb, z⟩ := H.z
  refine (rzlose_yes H.r k hk).mono ?_
  rintro e w' ⟨rfl, r', hm⟩
  exact ⟨rfl, ⟨nb, hnb, z.keepR H.r hm⟩, r', ext_modZ H.ext hm fun i hi => by have := H.lo; omega, H.lo⟩
theorem hp_lose_no (H : HP w0 w h count bm y gt gl m f fr) (k : Int) (hf : inZ 0 k ((count : Int) - 1) = false) :
    Calls Try.prog 11 #[.pointer (some ⟨h, 0, none⟩), .int .i64 k] w fun e w' => e = .returned (.int .i64 2) ∧ HP w0 w' h count bm y gt gl m f fr := by
  obtain ⟨nb, hnb, z⟩ := H.z
  refine (zlose_no z k hf).mono ?_
  rintro e w' ⟨rfl, rfl⟩
  exact ⟨rfl, H⟩
theorem hp_rlose_no (H : HP w0 w h count bm y gt gl m f fr) (k : Int) (hf : inZ 0 k ((count : Int) - 1) = false) :
    Calls Try.prog 12 #[.pointer (some ⟨y, 0, none⟩), .int .i64 k] w fun e w' => e = .returned (.int .i64 2) ∧ HP w0 w' h count bm y gt gl m f fr := by
  refine (rzlose_no H.r k hf).mono ?_
  rintro e w' ⟨rfl, rfl⟩
  exact ⟨rfl, H⟩
end
structure PutS (w0 V : World) (h count bm y gt gl m : Nat) (f fr : Int → Option Lst) (B s1 : Nat) (A : Option Addr) (n c : Nat) (l : List Nat) : Prop where
  hp : HP w0 V h count bm y gt gl m f fr
  row : V.ownsRow B 5 1 (.slice A n c) n (vb l)
  byt : ∀ x ∈ l, x < 256
  size : s1 ≤ V.heap.size
  lo : h < B ∧ bm < B ∧ y < B ∧ gt < B ∧ gl < B
section
variable {w0 w w' : World} {h count bm y gt gl m B s1 n c : Nat} {f fr : Int → Option Lst} {A : Option Addr} {l : List Nat}
theorem PutS.ext (S : PutS w0 w h count bm y gt gl m f fr B s1 A n c l) (hx : Ext w w') : PutS w0 w' h count bm y gt gl m f fr B s1 A n c l :=
  ⟨S.hp.keep hx, ownsRow_ext S.row hx, S.byt, Nat.le_trans S.size hx.size, S.lo⟩
theorem PutS.more (S : PutS w0 w h count bm y gt gl m f fr B s1 A n c l) : PutS w0 w h count bm y gt gl (m + 1) f fr B s1 A n c l := ⟨S.hp.more (Nat.le_succ _), S.row, S.byt, S.size, S.lo⟩
theorem PutS.by_ (S : PutS w0 w h count bm y gt gl m f fr B s1 A n c l) : By w A n c l := Bs.of_own S.row S.byt
theorem PutS.rowM {F : Nat → Prop} (S : PutS w0 w h count bm y gt gl m f fr B s1 A n c l) (hm : Mod F w w') (hF : ∀ i, F i → i < B) : w'.ownsRow B 5 1 (.slice A n c) n (vb l) :=
  own_mod S.row hm fun i hi e => by
    have := (S.row.lt i hi).1
    have := hF i e
    omega
theorem hp_put (S : PutS w0 w h count bm y gt gl m f fr B s1 A n c l) (hm : m ≤ 1000) (k : Int) (hf : fitsZ k count n = true) :
    Calls Try.prog 14 #[.pointer (some ⟨h, 0, none⟩), .int .i64 k, .slice A n c] w fun e w' => e = .returned (.int .i64 0) ∧ ∃ a : Lst, a.l = l ∧ PutS w0 w' h count bm y gt gl (m + 1) (updZ f k (some a)) fr B s1 A n c l ∧ ∀ p, a.A = some p → s1 ≤ p.block := by
  obtain ⟨nb, hnb, z⟩ := S.hp.z
  refine (zput_own z (by omega) k A n c l S.by_ hf).mono ?_
  rintro e w' ⟨rfl, a, ha, z', hmo, hfr⟩
  refine ⟨rfl, a, ha, ⟨⟨⟨nb + 1, by omega, z'⟩, S.hp.r.keepZ z hmo, ext_modZ S.hp.ext hmo fun i hi => by have := S.hp.lo; omega, S.hp.lo⟩, S.rowM hmo fun i hi => by have := S.lo; omega, S.byt, Nat.le_trans S.size hmo.size, S.lo⟩, fun p hp => Nat.le_trans S.size (hfr p hp)⟩
theorem hp_rput (S : PutS w0 w h count bm y gt gl m f fr B s1 A n c l) (k : Nat) (A2 : Option Addr) (c2 : Nat) (hb : By w A2 n c2 l) (hf : fitsZ (k : Int) count n = true) :
    Calls Try.prog 15 #[.pointer (some ⟨y, 0, none⟩), .int .i64 (k : Int), .slice A2 n c2] w fun e w' => e = .returned (.int .i64 0) ∧ ∃ a : Lst, a.l = l ∧ PutS w0 w' h count bm y gt gl m f (updZ fr (k : Int) (some a)) B s1 A n c l ∧ ∀ p, a.A = some p → s1 ≤ p.block := by
  obtain ⟨nb, hnb, z⟩ := S.hp.z
  refine (rzput_yes S.hp.r k A2 n c2 l hb hf (fun p hp hl e => S.hp.r.not_list hb hp (by rw [← hb.len]; exact List.length_pos_iff.2 hl) (.inl e))).mono ?_
  rintro e w' ⟨rfl, a, ha, r', hmo, hfr⟩
  refine ⟨rfl, a, ha, ⟨⟨⟨nb, hnb, z.keepR S.hp.r hmo⟩, r', ext_modZ S.hp.ext hmo fun i hi => by have := S.hp.lo; omega, S.hp.lo⟩, S.rowM hmo fun i hi => by have := S.lo; omega, S.byt, Nat.le_trans S.size hmo.size, S.lo⟩, fun p hp => Nat.le_trans S.size (hfr p hp)⟩
theorem hp_put_no (S : PutS w0 w h count bm y gt gl m f fr B s1 A n c l) (k : Int) (hf : fitsZ k count n = false) :
    Calls Try.prog 14 #[.pointer (some ⟨h, 0, none⟩), .int .i64 k, .slice A n c] w fun e w' => e = .returned (.int .i64 2) ∧ PutS w0 w' h count bm y gt gl m f fr B s1 A n c l := by
  obtain ⟨nb, hnb, z⟩ := S.hp.z
  refine (zput_no z k A n c hf).mono ?_
  rintro e w' ⟨rfl, rfl⟩
  exact ⟨rfl, S⟩
theorem hp_rput_no (S : PutS w0 w h count bm y gt gl m f fr B s1 A n c l) (k : Int) (A2 : Option Addr) (c2 : Nat) (hf : fitsZ k count n = false) :
    Calls Try.prog 15 #[.pointer (some ⟨y, 0, none⟩), .int .i64 k, .slice A2 n c2] w fun e w' => e = .returned (.int .i64 2) ∧ PutS w0 w' h count bm y gt gl m f fr B s1 A n c l := by
  refine (rzput_no S.hp.r k A2 n c2 hf).mono ?_
  rintro e w' ⟨rfl, rfl⟩
  exact ⟨rfl, S⟩
theorem HP.write {wr w2 w3 : World} {f' fr' : Int → Option Lst} {m' : Nat} (H : HP w0 wr h count bm y gt gl m f fr) (S : PutS w0 w2 h count bm y gt gl m' f' fr' wr.heap.size s1 A n c l) {k : Int}
    (e1 : ∀ j a, f' j = some a → f j = some a ∨ ∀ p, a.A = some p → s1 ≤ p.block) (e2 : ∀ j a, fr' j = some a → fr j = some a ∨ ∀ p, a.A = some p → s1 ≤ p.block)
    (hlt : ∀ p, A = some p → p.block < s1) (hm : Mod (fun i => ∃ p, A = some p ∧ p.block = i ∧ wr.heap.size ≤ i) w2 w3) : HP w0 w3 h count bm y gt gl m' f' fr' := by
  have _ := k
  obtain ⟨nb, hnb, z⟩ := S.hp.z
  obtain ⟨nb0, _, z0⟩ := H.z
  have hlo := S.lo
  refine ⟨⟨nb, hnb, z.modZ hm ?_ ?_ fun j a ha p hp hn => ?_⟩, S.hp.r.modZ hm ?_ ?_ ?_ fun j a ha p hp hn => ?_, ext_modZ S.hp.ext hm fun i hi => ?_, S.hp.lo⟩
  · rintro ⟨p, _, _, h4⟩; omega
  · rintro ⟨p, _, _, h4⟩; omega
  · rintro ⟨q, h1, h2, h3⟩
    have := hlt q h1
    rcases e1 j a ha with e | e
    · have := (by_first (z0.each j a e).1 hp hn).1
      omega
    · have := e p hp
      omega
  · rintro ⟨p, _, _, h4⟩; omega
  · rintro ⟨p, _, _, h4⟩; omega
  · rintro ⟨p, _, _, h4⟩; omega
  · rintro ⟨q, h1, h2, h3⟩
    have := hlt q h1
    rcases e2 j a ha with e | e
    · have := (by_first (H.r.each j a e).1 hp hn).1
      omega
    · have := e p hp
      omega
  · obtain ⟨p, _, _, h4⟩ := hi
    exact Nat.le_trans H.ext.size h4
theorem upd_old {k : Int} {a : Lst} (ha : ∀ p, a.A = some p → s1 ≤ p.block) : ∀ j b, updZ f k (some a) j = some b → f j = some b ∨ ∀ p, b.A = some p → s1 ≤ p.block := fun j b hb => by
  unfold updZ at hb
  split at hb
  · injection hb with hb
    subst hb
    exact .inr ha
  · exact .inl hb
end
section
variable {f fr : Int → Option Lst}
theorem SameH.none_ : SameH (fun _ => none) (fun _ => none) := fun _ => rfl
theorem SameH.upd (h : SameH f fr) (k : Int) (o o' : Option Lst) (ho : o.map Lst.l = o'.map Lst.l) : SameH (updZ f k o) (updZ fr k o') := fun j => by
  unfold updZ
  split
  · exact ho
  · exact h j
theorem SameH.is (h : SameH f fr) (k : Int) : (fr k).isSome = (f k).isSome ∧ optL (fr k) = optL (f k) := by
  have := h k
  cases h1 : f k with
  | none =>
    rw [h1] at this
    cases h2 : fr k with
    | none => exact ⟨rfl, rfl⟩
    | some b => rw [h2] at this; cases this
  | some a =>
    rw [h1] at this
    cases h2 : fr k with
    | none => rw [h2] at this; cases this
    | some b =>
      rw [h2] at this
      injection this with this
      exact ⟨rfl, this.symm⟩
theorem SameH.all (h : SameH f fr) (n : Nat) : missZ fr n = missZ f n ∧ whE fr n = whE f n ∧ whL fr n = whL f n := by
  have h1 : missZ fr n = missZ f n := by
    unfold missZ
    congr 1
    funext k
    have := (h.is (k : Int)).1
    cases ha : f (k : Int) <;> cases hb : fr (k : Int) <;> rw [ha, hb] at this <;> first | rfl | cases this
  have h2 : catZ fr n = catZ f n := by
    unfold catZ
    congr 1
    apply List.map_congr_left
    intro k _
    exact (h.is (k : Int)).2
  refine ⟨h1, ?_, ?_⟩
  · unfold whE
    rw [h1]
  · unfold whL
    rw [h1, h2]
end
end
end Go.Proofs.Ytgcinagkbdcgiaa
