/-
  Plain facts that the ghost statements' walks come to: disks without faults; faults leave what is meant; what put leaves.
  The contract of Honest.
  Plain facts for GhostHealed and GhostHonest: a disk that is taken up again; what Mine tells of a frame that was written.
  Plain facts on copies of a cell: which is loaded, by what both places hold; what Store and Heal leave.
-/
import Derived.Test.YtlikhmhomkiadaaGreatDoorR24
import Derived.Test.YtlikhmhomkiadaaGreatDoorR26
import Derived.Deep.RegionHeld3
namespace Go.Proofs.YtlikhmhomkiadaaGreatDoor
set_option maxRecDepth 100000

theorem puts_ok {m : DM} (h : m.Ok) {S : Int} {L : List Nat} (hl : ∀ x ∈ L, x < 256) (k : Nat) : (m.puts S L k).Ok := by
  induction k with
  | zero => exact h
  | succ k ih => exact DM.write_ok ih _ fun x hx => hl x (List.mem_of_mem_drop (List.mem_of_mem_take hx))
theorem write_size (m : DM) (s : Int) (b : List Nat) : (m.write s b).2.size = m.size := by
  unfold DM.write
  split
  · rfl
  · split
    · rfl
    · split <;> rfl
theorem puts_size (m : DM) (S : Int) (L : List Nat) (k : Nat) : (m.puts S L k).size = m.size := by
  induction k with
  | zero => rfl
  | succ k ih => exact (write_size _ _ _).trans ih
theorem flush_size (m : DM) : m.flush.2.size = m.size := by
  unfold DM.flush
  split
  · rfl
  · split
    · rfl
    · exact DM.comes_size _ _
theorem act_size (m : DM) (kind : Nat) (sec num : Int) (bytes : List Nat) (keep : List Bool) : (m.act kind sec num bytes keep).2.size = m.size := by
  unfold DM.act
  split
  · exact flush_size m
  · unfold DM.crash; split
    · rfl
    · exact DM.comes_size _ _
  · unfold DM.start; split <;> rfl
  · unfold DM.flip; split
    · rfl
    · simp [DM.size]
  · unfold DM.lose; split <;> rfl
  · unfold DM.stray; split
    · rfl
    · simp [DM.size]
  · unfold DM.setPower; split
    · rfl
    · split <;> rfl
  · exact write_size _ _ _
theorem act6_ok {m : DM} (h : m.Ok) {x : Act6} (hb : ∀ y ∈ x.bl, y < 256) (ha : ∀ y ∈ x.act.bl, y < 256) : (m.act6 x).Ok := by
  unfold DM.act6
  split
  · split
    · exact puts_ok h (fun y hy => sealL_lt hb y hy) _
    · exact h
  · exact DM.act_ok h _ _ _ ha _
theorem act6_size (m : DM) (x : Act6) : (m.act6 x).size = m.size := by
  unfold DM.act6
  split
  · split
    · exact puts_size _ _ _ _
    · rfl
  · exact act_size _ _ _ _ _ _

/-- A disk without faults. -/
structure NInv (m : DM) : Prop where
  ok : m.Ok
  same : ∀ i, m.rest.getD i [] = m.meant.getD i []
  none_ : ∀ i, m.lost.getD i false = false
theorem NInv.of_eq {m m' : DM} (h : NInv m) (hok : m'.Ok) (h1 : m'.rest = m.rest) (h2 : m'.meant = m.meant) (h3 : m'.lost = m.lost) : NInv m' :=
  ⟨hok, fun i => by rw [h1, h2]; exact h.same i, fun i => by rw [h3]; exact h.none_ i⟩
theorem NInv.comes {m : DM} (h : NInv m) {l : List (Nat × List Nat)} (hl : ∀ x ∈ l, x ∈ m.waits) : NInv (m.comes l) := by
  have g := comes_get l m h.ok fun x hx => (h.ok.waits x (hl x hx)).1
  refine ⟨DM.comes_ok l h.ok fun x hx => (h.ok.waits x (hl x hx)).2, fun i => ?_, fun i => ?_⟩
  · rw [(g i).1, (g i).2.1, h.same i]
  · rw [(g i).2.2, h.none_ i]
    split <;> rfl
theorem NInv.write {m : DM} (h : NInv m) (s : Int) {b : List Nat} (hb : ∀ x ∈ b, x < 256) : NInv (m.write s b).2 := by
  have hok := DM.write_ok h.ok s hb
  revert hok
  unfold DM.write
  split
  · intro _; exact h
  · split
    · intro _; exact h
    · split
      · intro hok; exact h.of_eq hok rfl rfl rfl
      · intro hok; exact h.of_eq hok rfl rfl rfl
theorem NInv.act {m : DM} (h : NInv m) (kind : Nat) (sec num : Int) {bytes : List Nat} (hb : ∀ x ∈ bytes, x < 256) (keep : List Bool) (hk : ¬ (3 ≤ kind % 9 ∧ kind % 9 ≤ 5)) : NInv (m.act kind sec num bytes keep).2 := by
  have hok := DM.act_ok h.ok kind sec num hb keep
  have h9 : kind % 9 < 9 := Nat.mod_lt _ (by omega)
  have hcase : kind % 9 = 0 ∨ kind % 9 = 1 ∨ kind % 9 = 2 ∨ kind % 9 = 6 ∨ kind % 9 = 7 ∨ kind % 9 = 8 := by omega
  unfold DM.act at hok ⊢
  rcases hcase with e | e | e | e | e | e
  · simp only [e] at hok ⊢
    revert hok
    unfold DM.flush
    split
    · intro _; exact h
    · split
      · intro hok; exact h.of_eq hok rfl rfl rfl
      · intro hok
        have h2 : NInv { m with power := lessP m.power } := h.of_eq ⟨h.ok.meant, h.ok.lost, h.ok.rests, h.ok.means, h.ok.waits, lessP_le h.ok.power⟩ rfl rfl rfl
        exact (h2.comes (l := m.waits) fun x hx => hx).of_eq hok rfl rfl rfl
  · simp only [e] at hok ⊢
    revert hok
    unfold DM.crash
    split
    · intro _; exact h
    · intro hok; exact (h.comes (l := kept m.waits keep) fun x hx => kept_mem hx).of_eq hok rfl rfl rfl
  · simp only [e] at hok ⊢
    revert hok
    unfold DM.start
    split
    · intro _; exact h
    · intro hok; exact h.of_eq hok rfl rfl rfl
  · simp only [e] at hok ⊢
    exact h.write sec (actB_lt hb)
  · simp only [e] at hok ⊢
    exact h.write sec (actB_lt hb)
  · simp only [e] at hok ⊢
    revert hok
    unfold DM.setPower
    split
    · intro _; exact h
    · split
      · intro _; exact h
      · intro hok; exact h.of_eq hok rfl rfl rfl
theorem NInv.puts {m : DM} (h : NInv m) {S : Int} {L : List Nat} (hl : ∀ x ∈ L, x < 256) (k : Nat) : NInv (m.puts S L k) := by
  induction k with
  | zero => exact h
  | succ k ih => exact ih.write _ fun x hx => hl x (List.mem_of_mem_drop (List.mem_of_mem_take hx))
theorem NInv.act6 {m : DM} (h : NInv m) {x : Act6} (hb : ∀ y ∈ x.bl, y < 256) (ha : ∀ y ∈ x.act.bl, y < 256) (hk : x.sl = true ∨ ¬ (3 ≤ x.act.kind % 9 ∧ x.act.kind % 9 ≤ 5)) : NInv (m.act6 x) := by
  unfold DM.act6
  split
  · split
    · exact h.puts (fun y hy => sealL_lt hb y hy) _
    · exact h
  · rename_i hs
    exact h.act _ _ _ ha _ (hk.resolve_left hs)
theorem NInv.hurt {m : DM} (h : NInv m) (s : Int) : m.hurt s = false := by
  unfold DM.hurt DM.at_ DM.means
  by_cases hh : m.has s = false
  · rw [if_pos hh, if_pos hh]; rfl
  · rw [if_neg hh, if_neg hh, h.none_, h.same]
    simp
theorem NInv.new (n : Nat) : NInv (DM.new n) := by
  refine ⟨DM.new_ok n, fun i => rfl, fun i => ?_⟩
  show (List.replicate n false).getD i false = false
  rw [List.getD_eq_getElem?_getD, List.getElem?_replicate]
  split <;> rfl

/-- Faults leave what is meant. -/
structure MInv (m : DM) (M : List (List Nat)) : Prop where
  ok : m.Ok
  size : m.size = 156
  meant : m.meant = M
theorem MInv.fault {m : DM} {M : List (List Nat)} (h : MInv m M) (kind : Nat) (sec num : Int) {bytes : List Nat} (hb : ∀ x ∈ bytes, x < 256) (keep : List Bool) (hk : 3 ≤ kind % 9 ∧ kind % 9 ≤ 5) : MInv (m.act kind sec num bytes keep).2 M := by
  refine ⟨DM.act_ok h.ok kind sec num hb keep, (act_size _ _ _ _ _ _).trans h.size, ?_⟩
  have hcase : kind % 9 = 3 ∨ kind % 9 = 4 ∨ kind % 9 = 5 := by omega
  unfold DM.act
  rcases hcase with e | e | e
  · simp only [e]
    unfold DM.flip
    split
    · exact h.meant
    · exact h.meant
  · simp only [e]
    unfold DM.lose
    split
    · exact h.meant
    · exact h.meant
  · simp only [e]
    unfold DM.stray
    split
    · exact h.meant
    · exact h.meant
theorem MInv.means {m m' : DM} {M : List (List Nat)} (h : MInv m M) (h' : MInv m' M) (s : Int) : m.means s = m'.means s := by
  unfold DM.means DM.has
  rw [h.size, h'.size, h.meant, h'.meant]
theorem MInv.meantL {m m' : DM} {M : List (List Nat)} (h : MInv m M) (h' : MInv m' M) (a : Int) (n : Nat) : m.meantL a n = m'.meantL a n :=
  catS_congr fun s _ _ => by rw [h.means h' s]

/-- The pieces of a frame. -/
def pieceL (L : List Nat) (k : Nat) : List Nat := (L.drop (64 * k)).take 64
theorem puts_form {m : DM} {S : Int} {L : List Nat} {W : Nat} (h : Ready m (1 + W)) (h0 : 0 ≤ S) (h1 : S + W ≤ 156) (hl : L.length = 64 * W) : ∀ k, k ≤ W →
    (m.puts S L k).waits = m.waits ++ (List.range k).map (fun j => ((S + ((j : Nat) : Int)).toNat, pieceL L j)) ∧ (m.puts S L k).rest = m.rest ∧ (m.puts S L k).meant = m.meant ∧ (m.puts S L k).lost = m.lost := by
  intro k
  induction k with
  | zero => intro _; exact ⟨by simp [DM.puts], rfl, rfl, rfl⟩
  | succ k ih =>
    intro hk
    obtain ⟨i1, i2, i3, i4⟩ := ih (by omega)
    have hr := h.puts h0 h1 hl k (by omega)
    rw [show 1 + W - k = (W - k) + 1 by omega] at hr
    have e := (hr.write (s := S + (k : Int)) (by omega) (by omega) (b := (L.drop (64 * k)).take 64) (by rw [List.length_take, List.length_drop]; omega)).1
    show ((m.puts S L k).write (S + (k : Int)) ((L.drop (64 * k)).take 64)).2.waits = _ ∧ ((m.puts S L k).write (S + (k : Int)) ((L.drop (64 * k)).take 64)).2.rest = _ ∧ ((m.puts S L k).write (S + (k : Int)) ((L.drop (64 * k)).take 64)).2.meant = _ ∧ ((m.puts S L k).write (S + (k : Int)) ((L.drop (64 * k)).take 64)).2.lost = _
    rw [e]
    refine ⟨?_, i2, i3, i4⟩
    show (m.puts S L k).waits ++ _ = _
    rw [i1, List.range_succ, List.map_append, List.append_assoc]
    rfl
theorem lastW_pieces (l : List (Nat × List Nat)) {S : Int} (h0 : 0 ≤ S) (f : Nat → List Nat) : ∀ k i, i < k → lastW (l ++ (List.range k).map (fun j => ((S + ((j : Nat) : Int)).toNat, f j))) (S + (i : Int)).toNat = some (f i) := by
  intro k
  induction k with
  | zero => intro i hi; omega
  | succ k ih =>
    intro i hi
    rw [List.range_succ, List.map_append, ← List.append_assoc, List.map_cons, List.map_nil, lastW_snoc]
    by_cases hik : i = k
    · subst hik
      rw [if_pos rfl]
    · rw [if_neg (by show ¬ (S + (k : Int)).toNat = _; omega)]
      exact ih i (by omega)
/-- What put leaves at the frame's sectors. -/
structure Put (m : DM) (S : Int) (L : List Nat) (W : Nat) : Prop where
  ok : m.Ok
  size : m.size = 156
  waits : m.waits = []
  at_ : ∀ i, i < W → m.at_ (S + ((i : Nat) : Int)) = (pieceL L i, false, 0) ∧ m.means (S + ((i : Nat) : Int)) = (pieceL L i, 0)
theorem put_put {m : DM} {S : Int} {L : List Nat} {W : Nat} (hok : m.Ok) (h : Ready m (1 + W)) (h0 : 0 ≤ S) (h1 : S + W ≤ 156) (hl : L.length = 64 * W) (hb : ∀ x ∈ L, x < 256) : Put (m.put S L W) S L W := by
  have hsz : (m.put S L W).size = 156 := by
    unfold DM.put
    rw [flush_size, puts_size, h.size]
  have hokp := puts_ok hok hb (S := S) W
  obtain ⟨f1, f2, f3, f4⟩ := puts_form h h0 h1 hl W (Nat.le_refl _)
  have hr := h.puts h0 h1 hl W (Nat.le_refl _)
  rw [show 1 + W - W = 0 + 1 by omega] at hr
  have e := hr.flush
  have hok2 : ({ (m.puts S L W) with power := lessP (m.puts S L W).power } : DM).Ok := ⟨hokp.meant, hokp.lost, hokp.rests, hokp.means, hokp.waits, lessP_le hokp.power⟩
  have g := comes_get (m.puts S L W).waits { (m.puts S L W) with power := lessP (m.puts S L W).power } hok2 fun x hx => (hokp.waits x hx).1
  refine ⟨DM.flush_ok hokp, hsz, by unfold DM.put; rw [e], fun i hi => ?_⟩
  have hw : lastW (m.puts S L W).waits (S + (i : Int)).toNat = some (pieceL L i) := by
    rw [f1]
    exact lastW_pieces m.waits h0 (pieceL L) W i hi
  have hg := g (S + (i : Int)).toNat
  rw [hw] at hg
  have hhas : (m.put S L W).has (S + (i : Int)) = true := DM.has_iff.2 ⟨by omega, by rw [hsz]; omega⟩
  have er : (m.put S L W).rest = (({ (m.puts S L W) with power := lessP (m.puts S L W).power } : DM).comes (m.puts S L W).waits).rest := by unfold DM.put; rw [e]
  have em : (m.put S L W).meant = (({ (m.puts S L W) with power := lessP (m.puts S L W).power } : DM).comes (m.puts S L W).waits).meant := by unfold DM.put; rw [e]
  have el : (m.put S L W).lost = (({ (m.puts S L W) with power := lessP (m.puts S L W).power } : DM).comes (m.puts S L W).waits).lost := by unfold DM.put; rw [e]
  unfold DM.at_ DM.means
  have hlo : (m.put S L W).lost.getD (S + (i : Int)).toNat false = false := by rw [el, hg.2.2]; rfl
  have hh : ¬ (m.put S L W).has (S + (i : Int)) = false := by rw [hhas]; simp
  rw [if_neg hh, if_neg (by rw [hlo]; simp), if_neg hh, er, em, hg.1, hg.2.1]
  exact ⟨rfl, rfl⟩
theorem catS_pieces {f : Int → List Nat} {S : Int} {L : List Nat} : ∀ k, (∀ i, i < k → f (S + ((i : Nat) : Int)) = pieceL L i) → catS f S k = L.take (64 * k) := by
  intro k
  induction k with
  | zero => intro _; simp [catS]
  | succ k ih =>
    intro h
    rw [catS_succ, ih fun i hi => h i (by omega), h k (by omega), show 64 * (k + 1) = 64 * k + 64 by omega, List.take_add]
    rfl
theorem Put.meantL {m : DM} {S : Int} {L : List Nat} {W : Nat} (h : Put m S L W) (hl : L.length = 64 * W) : m.meantL S W = L := by
  unfold DM.meantL
  rw [catS_pieces W fun i hi => by rw [(h.at_ i hi).2], ← hl, List.take_length]
theorem Put.unhurt {m : DM} {S : Int} {L : List Nat} {W : Nat} (h : Put m S L W) : anyIn m.hurt S W = false := by
  cases hh : anyIn m.hurt S W with
  | false => rfl
  | true =>
    obtain ⟨s, h1, h2, h3⟩ := anyIn_iff.1 hh
    have := h.at_ (s - S).toNat (by omega)
    rw [show S + (((s - S).toNat : Nat) : Int) = s by omega] at this
    unfold DM.hurt at h1
    rw [this.1, this.2] at h1
    simp at h1
end Go.Proofs.YtlikhmhomkiadaaGreatDoor

namespace Go.Proofs.YtlikhmhomkiadaaGreatDoor
set_option maxRecDepth 100000
open Go Go.RowKit

/-- The tag that a frame's Mine tells, as a value. -/
def tagV (l : List Nat) (r g p : Int) : Value := .agg #[.int .i64 (mfl l r g p 0), .int .i64 (mfl l r g p 1), .int .i64 (mfl l r g p 2), .int .i64 (mfl l r g p 3), .int .i64 (mfl l r g p 4)]

set_option maxHeartbeats 1600000 in
theorem honest_err {w : World} {q : Option Addr} {sz : Nat} (hS : Sized w q sz) (hL : LaidT w) (r g p : Int) (hE : placeG sz r g p ≠ 0) :
    Calls Tryz.prog 17 #[.pointer q, .int .i64 r, .int .i64 g, .int .i64 p] w fun e w' => e = .returned (.tuple #[.int .u8 0, .agg #[.int .i64 0, .int .i64 0, .int .i64 0, .int .i64 0, .int .i64 0], .slice none 0 0, .int .i64 (placeG sz r g p)]) ∧ Ext w w' := by
  have hE0 : Ext w (w.alloc (.cells #[.int .i64 0, .int .i64 0, .int .i64 0, .int .i64 0, .int .i64 0] 33)) := (Ext.refl w).alloc _
  have hk := gplace_of (hS.ext hE0) (hL.ext hE0) r g p
  obtain ⟨E, hEE⟩ : ∃ E, placeG sz r g p = E := ⟨_, rfl⟩
  rw [hEE] at hk hE ⊢
  have HK := Lib.hid hk
  have HE := Lib.hid hE0
  have hne : (E != 0) = true := by simpa using hE
  have HZ := Lib.hid (heap_alloc_new w (.cells #[.int .i64 0, .int .i64 0, .int .i64 0, .int .i64 0, .int .i64 0] 33))
  clear hS hL hk hE hEE hE0
  go_enter Tryz.func17, Tryz.ntmps17
  go_wp2_with fail
  refine HK.out.mono ?_
  rintro e w1 ⟨rfl, hx⟩
  have hz1 := (hx.block _ (Array.getElem?_eq_some_iff.1 HZ.out).1).trans HZ.out
  have HE := Lib.hid (HE.out.trans hx)
  have HZ := Lib.hid hz1
  obtain ⟨⟨c0, c1, c2, c3, c4⟩, f0, f1, f2, f3, f4⟩ := five_cells hz1
  clear hx hz1
  go_wp2_with fail
  have hz3 := five_row HZ.out (.int .i64 0) (.int .i64 0) (.int .i64 0) (.int .i64 0) (.int .i64 0)
  have hx3 := five_ext HE.out (Nat.le_refl _) (.int .i64 0) (.int .i64 0) (.int .i64 0) (.int .i64 0) (.int .i64 0)
  generalize (((((w1.setCell ⟨w.heap.size, 0, none⟩ (.int .i64 0)).setCell ⟨w.heap.size, 1, none⟩ (.int .i64 0)).setCell ⟨w.heap.size, 2, none⟩ (.int .i64 0)).setCell ⟨w.heap.size, 3, none⟩ (.int .i64 0)).setCell ⟨w.heap.size, 4, none⟩ (.int .i64 0)) = V at hz3 hx3 ⊢
  obtain ⟨⟨e0, e1, e2, e3, e4⟩, _⟩ := five_cells hz3
  refine bodyPost_ret (v := .tuple #[.int .u8 0, .agg #[.int .i64 0, .int .i64 0, .int .i64 0, .int .i64 0, .int .i64 0], .slice none 0 0, .int .i64 E]) ?_ rfl ?_
  · simp [results, Tryz.results17, go_sem, e0, e1, e2, e3, e4]
  · exact ⟨rfl, hx3⟩

set_option maxRecDepth 100000 in
set_option maxHeartbeats 3200000 in
theorem honest_yes {w : World} {d : Nat} {F : Nat → Prop} {m : DM} (h : PDisk w d F m) (hL : LaidF w) (r g p : Int) (hE : placeG m.size r g p = 0) :
    Calls Tryz.prog 17 #[.pointer (some ⟨d, 0, none⟩), .int .i64 r, .int .i64 g, .int .i64 p] w fun e w' => ∃ A' N, e = .returned (.tuple #[.int .u8 (stM (m.meantL (firstS g p) (wid g)) r g p), tagV (m.meantL (firstS g p) (wid g)) r g p, .slice A' N N, .int .i64 0]) ∧ By w' A' N N (mbl (m.meantL (firstS g p) (wid g)) r g p) ∧ Ext w w' := by
  have hE0 : Ext w (w.alloc (.cells #[.int .i64 0, .int .i64 0, .int .i64 0, .int .i64 0, .int .i64 0] 33)) := (Ext.refl w).alloc _
  have hk := gplace_of (Sized.of (h.ext hE0)) (hL.ext hE0).a.t r g p
  rw [hE] at hk
  have hf0 := (placeG_ok hE).2
  have hmb : ∀ V, Ext w V → Calls Tryz.prog 61 #[.pointer (some ⟨d, 0, none⟩), .int .i64 g, .int .i64 p] V fun e w' => ∃ A c, e = .returned (.slice A (m.meantL (firstS g p) (wid g)).length c) ∧ By w' A (m.meantL (firstS g p) (wid g)).length c (m.meantL (firstS g p) (wid g)) ∧ Ext V w' := fun V hx => meantBytes_of (h.ext hx) (hL.ext hx).a.t g p hf0
  generalize m.meantL (firstS g p) (wid g) = L at *
  unfold tagV
  have hmi := fun (A1 : Option Addr) (c1 : Nat) (V : World) (hx : Ext w V) (hb : By V A1 L.length c1 L) => mine_own A1 _ c1 L r g p V (hL.ext hx) hb
  generalize stM L r g p = st at *
  generalize mbl L r g p = bl at *
  generalize (mfl L r g p 0) = t0 at *
  generalize (mfl L r g p 1) = t1 at *
  generalize (mfl L r g p 2) = t2 at *
  generalize (mfl L r g p 3) = t3 at *
  generalize (mfl L r g p 4) = t4 at *
  have HMI := Lib.hid hmi
  have HK := Lib.hid hk
  have HE := Lib.hid hE0
  have HL := Lib.hid hL
  have HMB := Lib.hid hmb
  have HZ := Lib.hid (heap_alloc_new w (.cells #[.int .i64 0, .int .i64 0, .int .i64 0, .int .i64 0, .int .i64 0] 33))
  clear h hL hk hE hE0 hf0 hmb hmi
  go_enter Tryz.func17, Tryz.ntmps17
  go_wp2_with fail
  refine HK.out.mono ?_
  rintro e w1 ⟨rfl, hx⟩
  have HZ := Lib.hid ((hx.block _ (Array.getElem?_eq_some_iff.1 HZ.out).1).trans HZ.out)
  have HE := Lib.hid (HE.out.trans hx)
  clear hx
  go_wp2_with fail
  refine (HMB.out _ HE.out).mono ?_
  rintro e w2 ⟨A1, c1, rfl, hb, hx⟩
  have HZ := Lib.hid ((hx.block _ (Array.getElem?_eq_some_iff.1 HZ.out).1).trans HZ.out)
  have HE := Lib.hid (HE.out.trans hx)
  have HB := Lib.hid hb
  clear hx hb
  go_wp2_with fail
  refine (HMI.out A1 c1 _ HE.out HB.out).mono ?_
  rintro e w3 ⟨A2, N, rfl, hb2, hge, hx⟩
  have hz3 := (hx.block _ (Array.getElem?_eq_some_iff.1 HZ.out).1).trans HZ.out
  have hlt : w.heap.size < w2.heap.size := (Array.getElem?_eq_some_iff.1 HZ.out).1
  have HZ := Lib.hid hz3
  have HE := Lib.hid (HE.out.trans hx)
  have HB2 := Lib.hid hb2
  have HNE : Hid (∀ gg o, A2 = some ⟨gg, o, none⟩ → 0 < N → w.heap.size ≠ gg) := Lib.hid fun gg o hA hN e => by
    have := hge gg o hA hN
    omega
  obtain ⟨⟨c0, c1, c2, c3, c4⟩, f0, f1, f2, f3, f4⟩ := five_cells hz3
  clear hx hz3 hb2 hge HMB HK HMI
  go_wp2_with fail
  have hrow := five_row HZ.out (.int .i64 t0) (.int .i64 t1) (.int .i64 t2) (.int .i64 t3) (.int .i64 t4)
  have hx := five_ext HE.out (Nat.le_refl _) (.int .i64 t0) (.int .i64 t1) (.int .i64 t2) (.int .i64 t3) (.int .i64 t4)
  have hby := HB2.out.five HNE.out (.int .i64 t0) (.int .i64 t1) (.int .i64 t2) (.int .i64 t3) (.int .i64 t4)
  clear c0 c1 c2 c3 c4 f0 f1 f2 f3 f4
  generalize (((((w3.setCell ⟨w.heap.size, 0, none⟩ (.int .i64 t0)).setCell ⟨w.heap.size, 1, none⟩ (.int .i64 t1)).setCell ⟨w.heap.size, 2, none⟩ (.int .i64 t2)).setCell ⟨w.heap.size, 3, none⟩ (.int .i64 t3)).setCell ⟨w.heap.size, 4, none⟩ (.int .i64 t4)) = W at *
  generalize hh0 : w.heap.size = h0 at *
  obtain ⟨⟨d0, d1, d2, d3, d4⟩, f0, f1, f2, f3, f4⟩ := five_cells hrow
  have HZ := Lib.hid hrow
  have HE := Lib.hid hx
  have HB2 := Lib.hid hby
  have HN0 := Lib.hid hh0
  clear hh0 hrow hx hby
  go_region_held3 (fun w' => w'.cell? ⟨h0, 0, none⟩ = some (.int .i64 t0) ∧ w'.cell? ⟨h0, 1, none⟩ = some (.int .i64 t1) ∧ w'.cell? ⟨h0, 2, none⟩ = some (.int .i64 t2) ∧ w'.cell? ⟨h0, 3, none⟩ = some (.int .i64 t3) ∧ w'.cell? ⟨h0, 4, none⟩ = some (.int .i64 t4))
    (first | with_reducible exact ⟨d0, d1, d2, d3, d4⟩ | with_reducible exact five_near_drew HZ.out _ _ _ _ _ | go_keep)
    (first | (go_at_call 0; fail))
  have hrow := five_row HZ.out (.int .i64 t0) (.int .i64 t1) (.int .i64 t2) (.int .i64 t3) (.int .i64 t4)
  have hx := five_ext HE.out (g := h0) (Nat.le_of_eq HN0.out) (.int .i64 t0) (.int .i64 t1) (.int .i64 t2) (.int .i64 t3) (.int .i64 t4)
  have hby := HB2.out.five HNE.out (.int .i64 t0) (.int .i64 t1) (.int .i64 t2) (.int .i64 t3) (.int .i64 t4)
  clear d0 d1 d2 d3 d4 f0 f1 f2 f3 f4
  generalize (((((W.setCell ⟨h0, 0, none⟩ (.int .i64 t0)).setCell ⟨h0, 1, none⟩ (.int .i64 t1)).setCell ⟨h0, 2, none⟩ (.int .i64 t2)).setCell ⟨h0, 3, none⟩ (.int .i64 t3)).setCell ⟨h0, 4, none⟩ (.int .i64 t4)) = V at hrow hx hby ⊢
  obtain ⟨⟨e0, e1, e2, e3, e4⟩, _⟩ := five_cells hrow
  have HB2 := Lib.hid (hby.ext ((Ext.refl V).drew))
  have HX := Lib.hid hx.drew
  clear hrow hx hby
  go_wp2_with fail
  refine bodyPost_ret (v := .tuple #[.int .u8 st, .agg #[.int .i64 t0, .int .i64 t1, .int .i64 t2, .int .i64 t3, .int .i64 t4], .slice A2 N N, .int .i64 0]) ?_ rfl ?_
  · simp [results, Tryz.results17, go_sem, e0, e1, e2, e3, e4]
  · exact ⟨A2, N, rfl, HB2.out, HX.out⟩
end Go.Proofs.YtlikhmhomkiadaaGreatDoor

namespace Go.Proofs.YtlikhmhomkiadaaGreatDoor
set_option maxRecDepth 100000
open Go Go.RowKit

def DM.downed (m : DM) : DM := if m.up = true then m else (m.crash []).2
def DM.raised (m : DM) : DM := (m.start.2.setPower 1000).2
theorem downed_ok {m : DM} (h : m.Ok) : m.downed.Ok := by
  unfold DM.downed
  split
  · exact h
  · exact DM.crash_ok h []
theorem crash_size (m : DM) (k : List Bool) : (m.crash k).2.size = m.size := act_size m 1 0 0 [] k
theorem start_size (m : DM) : m.start.2.size = m.size := act_size m 2 0 0 [] []
theorem setPower_size (m : DM) (n : Int) : (m.setPower n).2.size = m.size := act_size m 8 0 n [] []
theorem heal_ready {m : DM} (hok : m.Ok) (hs : m.size = 156) {N : Nat} (hw : m.waits.length ≤ N) : m.downed.raised.Ok ∧ Ready m.downed.raised 3 ∧ m.downed.raised.waits.length ≤ N := by
  have hd : m.downed.size = 156 ∧ m.downed.waits.length ≤ N ∧ (m.downed.up = true ∨ m.downed.down = true) := by
    unfold DM.downed
    split
    · rename_i hu
      exact ⟨hs, hw, .inl hu⟩
    · refine ⟨(crash_size _ _).trans hs, ?_, ?_⟩
      · unfold DM.crash; split
        · exact hw
        · simp
      · unfold DM.crash; split
        · rename_i hdn; exact .inr hdn
        · exact .inr rfl
  have hok2 := downed_ok hok
  generalize m.downed = p at *
  obtain ⟨h1, h2, h3⟩ := hd
  have hst : p.start.2.size = 156 ∧ p.start.2.waits.length ≤ N ∧ p.start.2.up = true := by
    refine ⟨(start_size _).trans h1, ?_, ?_⟩
    · unfold DM.start; split <;> exact h2
    · unfold DM.start
      split
      · rename_i hdn
        exact h3.resolve_right (by rw [hdn]; simp)
      · rfl
  have hok3 := DM.start_ok hok2
  unfold DM.raised
  generalize p.start.2 = q at *
  obtain ⟨g1, g2, g3⟩ := hst
  refine ⟨DM.setPower_ok hok3 1000, ?_, ?_⟩
  · have e : q.setPower 1000 = (0, { q with power := 1000 }) := by
      unfold DM.setPower
      rw [if_neg (by rw [g3]; simp), if_neg (by omega)]
    rw [e]
    exact ⟨g3, g1, .inr (by show (3 : Int) ≤ 1000; omega)⟩
  · unfold DM.setPower
    split
    · exact g2
    · split <;> exact g2
/-- What Mine tells of a frame at its own place. -/
theorem seal_mine {a b c t e : Int} {s : Int} {body : List Nat} (h : sealE a b c t e body.length s = 0) : stM (sealL a b c t e body s) a b c = 1 ∧ tagV (sealL a b c t e body s) a b c = .agg #[.int .i64 a, .int .i64 b, .int .i64 c, .int .i64 t, .int .i64 e] ∧ mbl (sealL a b c t e body s) a b c = body ∧
    ((mfl (sealL a b c t e body s) a b c 0 : Nat) : Int) = a ∧ ((mfl (sealL a b c t e body s) a b c 1 : Nat) : Int) = b ∧ ((mfl (sealL a b c t e body s) a b c 2 : Nat) : Int) = c ∧ ((mfl (sealL a b c t e body s) a b c 3 : Nat) : Int) = t ∧ ((mfl (sealL a b c t e body s) a b c 4 : Nat) : Int) = e := by
  obtain ⟨hg, hb, q0, q1, q2, q3, q4⟩ := sealL_good h
  obtain ⟨e1, e2, e3⟩ := mine_yes hg ((mineB_iff hg).2 ⟨q0, q1, q2⟩)
  have f0 := e2 0
  have f1 := e2 1
  have f2 := e2 2
  have f3 := e2 3
  have f4 := e2 4
  refine ⟨e1, ?_, e3.trans hb, by rw [f0]; exact q0, by rw [f1]; exact q1, by rw [f2]; exact q2, by rw [f3]; exact q3, by rw [f4]; exact q4⟩
  unfold tagV
  rw [f0, f1, f2, f3, f4, q0, q1, q2, q3, q4]
theorem may_place {a b c t e : Int} (hm : mayB a b c t e = true) : placeG 156 a b c = 0 := by
  obtain ⟨h1, h2, h3, h4, h5, h6, _⟩ := mayB_iff.1 hm
  have hk : knownG 156 a = 0 := by
    unfold knownG
    rw [if_neg (by omega), if_neg (by omega)]
  have hf := first_wid ⟨h5, h6⟩
  unfold placeG
  rw [hk, if_neg (by simp), if_neg (by omega)]
/-- All of a frame that may be: it can be written, how long it is, what it tells. -/
theorem may_all {a b c t e : Int} {n : Nat} {body : List Nat} (hm : mayB a b c t e = true) (hn : n ≤ 43) (hb : body.length = n) : sealE a b c t e body.length (wid b : Nat) = 0 ∧ (sealL a b c t e body (wid b : Nat)).length = 64 * wid b ∧ 1 ≤ wid b ∧ 0 ≤ firstS b c ∧ firstS b c + wid b ≤ 156 := by
  obtain ⟨h1, h2, h3, h4, h5, h6, _⟩ := mayB_iff.1 hm
  have hw1 := wid_pos (r := b) ⟨h3, h4⟩
  have hw2 := wid_le b
  have hE : sealE a b c t e body.length (wid b : Nat) = 0 := sealE_yes (by rcases (by omega : wid b = 1 ∨ wid b = 2) with e | e <;> rw [e] <;> decide) hm (by rw [hb]; rcases (by omega : wid b = 1 ∨ wid b = 2) with e | e <;> rw [e] <;> (simp [roomN]; omega))
  have hl := (sealL_len hE).1
  rw [Int.toNat_natCast] at hl
  exact ⟨hE, hl, hw1, (first_wid ⟨h5, h6⟩).1, (first_wid ⟨h5, h6⟩).2⟩
end Go.Proofs.YtlikhmhomkiadaaGreatDoor

namespace Go.Proofs.YtlikhmhomkiadaaGreatDoor
set_option maxRecDepth 100000

/-- A good copy at a place of replica 0. -/
structure Cop (x : List Nat) (g p : Int) (v c : Nat) (b : List Nat) : Prop where
  st : stM x 0 g p = 1
  v3 : mfl x 0 g p 3 = v
  c4 : mfl x 0 g p 4 = c
  bd : mbl x 0 g p = b
theorem sealC_sect {r g p : Int} {i c : Nat} {b : List Nat} (h : mayB r g p (i : Int) (c : Int) = true) (hn : b.length ≤ 43) (hb : ∀ x ∈ b, x < 256) : Sect (sealC r g p i c b) := by
  have hE := seal_one (n := b.length) h hn
  refine ⟨?_, sealL_lt hb⟩
  have := (sealL_len hE).1
  unfold sealC
  rw [this]
  rfl
theorem cop_seal {g p : Int} {i c : Nat} {b : List Nat} (h : mayB 0 g p (i : Int) (c : Int) = true) (hn : b.length ≤ 43) : Cop (sealC 0 g p i c b) g p i c b := by
  obtain ⟨h1, _, h3, _, _, _, h4, h5⟩ := seal_mine (seal_one (n := b.length) h hn)
  exact ⟨h1, Int.ofNat.inj h4, Int.ofNat.inj h5, h3⟩
theorem no_copy {x : List Nat} {r g p : Int} (h : stM x r g p ≠ 1) (k : Nat) : mfl x r g p k = 0 := by
  unfold mfl
  split
  · rename_i hm
    exact absurd (by unfold stM; rw [if_pos (by unfold mineB at hm; rw [Bool.and_eq_true] at hm; exact hm.1), if_pos hm]) h
  · rfl
theorem z64_blank (r g p : Int) : stM z64 r g p = 0 := by
  have hz : zeroB z64 = true := by decide
  rw [(mine_bad (zero_bad hz)).1]
  exact stN_blank (by decide) hz
theorem nil_bad (r g p : Int) : stM [] r g p = 2 := by
  have hz : szB [] = false := by decide
  rw [(mine_bad (size_bad hz)).1]
  exact stN_size hz
/-- What is loaded of two places. -/
structure Ldd (g : Int) (x y : List Nat) (E : Int) (v : Nat) (b : List Nat) : Prop where
  e : cellE 0 g x y = E
  v : cellF 0 g x y 3 = v
  b : cellB 0 g x y = b
section
variable {g : Int} {x y : List Nat} {v c u d : Nat} {b e : List Nat}
theorem at0 (h : Cop x g 0 v c b) (hy : mfl y 0 g 1 3 ≤ v) : atC 0 g x y = 0 := by
  unfold atC pickP lead0
  rw [h.st, h.v3, decide_eq_true hy]
  rfl
theorem at1 (h : Cop y g 1 v c b) (hx : mfl x 0 g 0 3 < v ∨ stM x 0 g 0 ≠ 1) : atC 0 g x y = 1 := by
  have hx2 : lead0 0 g x y = false := by
    unfold lead0
    rw [h.v3]
    rcases hx with hx | hx
    · rw [decide_eq_false (p := v ≤ _) (by omega)]; simp
    · rw [decide_eq_false hx]; rfl
  have hx3 : mfl x 0 g 0 3 ≤ v := by
    rcases hx with hx | hx
    · omega
    · rw [no_copy hx]; omega
  unfold atC pickP
  rw [hx2]
  unfold lead1
  rw [h.st, h.v3, decide_eq_true hx3]
  rfl
theorem atm (hx : stM x 0 g 0 ≠ 1) (hy : stM y 0 g 1 ≠ 1) : atC 0 g x y = -1 := by
  unfold atC pickP lead0 lead1
  rw [decide_eq_false hx, decide_eq_false hy]
  rfl
theorem ldd0 (h : Cop x g 0 v c b) (hy : mfl y 0 g 1 3 ≤ v) : Ldd g x y 0 v b := by
  have ha := at0 h hy
  exact ⟨by unfold cellE; rw [ha, if_neg (by omega)], by unfold cellF; rw [if_pos ha, h.v3], by unfold cellB; rw [if_pos ha, h.bd]⟩
theorem ldd1 (h : Cop y g 1 v c b) (hx : mfl x 0 g 0 3 < v ∨ stM x 0 g 0 ≠ 1) : Ldd g x y 0 v b := by
  have ha := at1 h hx
  exact ⟨by unfold cellE; rw [ha, if_neg (by omega)], by unfold cellF; rw [if_neg (by rw [ha]; omega), if_pos ha, h.v3], by unfold cellB; rw [if_neg (by rw [ha]; omega), if_pos ha, h.bd]⟩
theorem ldd_blank (hx : stM x 0 g 0 = 0) (hy : stM y 0 g 1 = 0) : Ldd g x y 0 0 [] := by
  have ha := atm (g := g) (x := x) (y := y) (by omega) (by omega)
  refine ⟨?_, by unfold cellF; rw [ha]; rfl, by unfold cellB; rw [ha]; rfl⟩
  unfold cellE blankC pickP
  rw [hx, if_neg (by simp)]
theorem ldd_bad (hx : stM x 0 g 0 = 2) (hy : stM y 0 g 1 = 2) : cellE 0 g x y = 70 := by
  have ha := atm (g := g) (x := x) (y := y) (by omega) (by omega)
  unfold cellE blankC pickP
  rw [ha, hx, hy]
  rfl
end
/-- The sector of a place of a cell. -/
def secV (g : Int) (p : Nat) : Nat := (2 * (g - 1)).toNat + p
theorem secV_first {g : Int} (hg : g = 1 ∨ g = 2) {p : Nat} (hp : p ≤ 1) : firstS g (p : Int) = (secV g p : Nat) := by
  have : p = 0 ∨ p = 1 := by omega
  rcases hg with rfl | rfl <;> rcases this with rfl | rfl <;> decide
theorem secV_lt {g : Int} (hg : g = 1 ∨ g = 2) {p : Nat} (hp : p ≤ 1) : secV g p < 156 := by
  unfold secV
  rcases hg with rfl | rfl <;> omega
theorem secV_ne {g : Int} : secV g 0 ≠ secV g 1 := by unfold secV; omega
/-- What is loaded of a disk. -/
structure Ld (m : DM) (g : Int) (v : Nat) (b : List Nat) : Prop where
  e : m.loadE 0 g = 0
  v : m.loadV 0 g = v
  b : m.loadB 0 g = b
section
variable {m : DM} {pw : Int} {g : Int} {v : Nat} {b : List Nat}
theorem CD.cb (h : CD m pw) (hg : g = 1 ∨ g = 2) {p : Nat} (hp : p ≤ 1) : m.cb g (p : Int) = m.hold (secV g p) := by
  unfold DM.cb
  rw [secV_first hg hp]
  exact h.read (secV_lt hg hp)
theorem CD.cb0 (h : CD m pw) (hg : g = 1 ∨ g = 2) : m.cb g 0 = m.hold (secV g 0) := h.cb hg (p := 0) (by omega)
theorem CD.cb1 (h : CD m pw) (hg : g = 1 ∨ g = 2) : m.cb g 1 = m.hold (secV g 1) := h.cb hg (p := 1) (by omega)
theorem CD.loadE (h : CD m pw) (hg : g = 1 ∨ g = 2) : m.loadE 0 g = cellE 0 g (m.hold (secV g 0)) (m.hold (secV g 1)) := by
  unfold DM.loadE
  rw [if_neg (by rw [h.up]; simp), h.cb0 hg, h.cb1 hg]
theorem CD.ld (h : CD m pw) (hg : g = 1 ∨ g = 2) (k : Ldd g (m.hold (secV g 0)) (m.hold (secV g 1)) 0 v b) : Ld m g v b := by
  have he : m.loadE 0 g = 0 := by rw [h.loadE hg]; exact k.e
  refine ⟨he, ?_, ?_⟩
  · unfold DM.loadV
    rw [if_pos he, h.cb0 hg, h.cb1 hg]
    exact k.v
  · unfold DM.loadB
    rw [if_pos he, h.cb0 hg, h.cb1 hg]
    exact k.b
end
/-- Both copies of a cell are of one version and body; or nothing was stored. -/
def Two (m : DM) (g : Int) (v : Nat) (b : List Nat) : Prop :=
  (v = 0 ∧ b = [] ∧ m.hold (secV g 0) = z64 ∧ m.hold (secV g 1) = z64) ∨ (1 ≤ v ∧ ∃ c d, Cop (m.hold (secV g 0)) g 0 v c b ∧ Cop (m.hold (secV g 1)) g 1 v d b)
theorem Two.of_eq {m m' : DM} {g : Int} {v : Nat} {b : List Nat} (h : Two m g v b) (h0 : m'.hold (secV g 0) = m.hold (secV g 0)) (h1 : m'.hold (secV g 1) = m.hold (secV g 1)) : Two m' g v b := by
  unfold Two
  rw [h0, h1]
  exact h
theorem Two.ldd {m : DM} {g : Int} {v : Nat} {b : List Nat} (h : Two m g v b) : Ldd g (m.hold (secV g 0)) (m.hold (secV g 1)) 0 v b := by
  rcases h with ⟨rfl, rfl, h0, h1⟩ | ⟨hv, c, d, h0, h1⟩
  · rw [h0, h1]
    exact ldd_blank (z64_blank 0 g 0) (z64_blank 0 g 1)
  · exact ldd0 h0 (by rw [h1.v3]; omega)
theorem new_two {g : Int} (hg : g = 1 ∨ g = 2) : Two (DM.new 156) g 0 [] := .inl ⟨rfl, rfl, new_hold (secV_lt hg (by omega)), new_hold (secV_lt hg (by omega))⟩
/-- What Store does to a cell both copies of which are the same. -/
theorem Two.store {m : DM} {pw : Int} {g : Int} {v : Nat} {b : List Nat} (hd : CD m pw) (hg : g = 1 ∨ g = 2) (h : Two m g v b) (hv : v < 1099511627776) {c : Nat} (hc : 1 ≤ c ∧ c ≤ 1099511627776) {body : List Nat} (hn : body.length ≤ 43) :
    ∃ f o : Nat, f ≤ 1 ∧ o = 1 - f ∧ (v = 0 → f = 0) ∧ (1 ≤ v → f = 1) ∧ m.store 0 g (c : Int) body = m.two (secV g f) (secV g o) (sealC 0 g f (v + 1) c body) (sealC 0 g o (v + 1) c body) := by
  have hl := hd.ld hg h.ldd
  have hE : m.storeE 0 g (c : Int) body.length = 0 := by
    unfold DM.storeE
    rw [if_neg (by omega), if_neg (by omega), if_neg (by rw [hl.e]; simp), if_neg (by rw [hl.v]; omega)]
  have hs : m.store 0 g (c : Int) body = m.puts2 0 g (firstP 0 g (m.cb g 0) (m.cb g 1)) (v + 1) c body := by
    unfold DM.store
    rw [if_neg (by rw [hE]; simp), hl.v, Int.toNat_natCast]
  rw [hs, hd.cb0 hg, hd.cb1 hg]
  rcases h with ⟨rfl, rfl, h0, h1⟩ | ⟨hv1, c0, d0, h0, h1⟩
  · refine ⟨0, 1, by omega, rfl, fun _ => rfl, fun h => absurd h (by omega), ?_⟩
    have ha := atm (g := g) (x := z64) (y := z64) (by rw [z64_blank]; omega) (by rw [z64_blank]; omega)
    have hf : firstP 0 g (m.hold (secV g 0)) (m.hold (secV g 1)) = 0 := by unfold firstP; rw [h0, h1, if_neg (by rw [ha]; omega)]
    rw [hf]
    unfold DM.puts2 DM.two
    rw [show firstS g 0 = (secV g 0 : Nat) from secV_first hg (p := 0) (by omega), show firstS g (otherP 0) = (secV g 1 : Nat) from secV_first hg (p := 1) (by omega)]
    rfl
  · refine ⟨1, 0, by omega, rfl, fun h => absurd h (by omega), fun _ => rfl, ?_⟩
    have ha := at0 h0 (y := m.hold (secV g 1)) (by rw [h1.v3]; omega)
    have hf : firstP 0 g (m.hold (secV g 0)) (m.hold (secV g 1)) = 1 := by unfold firstP; rw [if_pos ha]
    rw [hf]
    unfold DM.puts2 DM.two
    rw [show firstS g 1 = (secV g 1 : Nat) from secV_first hg (p := 1) (by omega), show firstS g (otherP 1) = (secV g 0 : Nat) from secV_first hg (p := 0) (by omega)]
    rfl
theorem may_new {g : Int} (hg : g = 1 ∨ g = 2) {p : Nat} (hp : p ≤ 1) {v c : Nat} (hv : v < 1099511627776) (hc : 1 ≤ c ∧ c ≤ 1099511627776) : mayB 0 g (p : Int) ((v + 1 : Nat) : Int) (c : Int) = true := may_store (by omega) hg (by omega) hv (by omega)
/-- A Store that has power. -/
theorem Two.stored {m : DM} {g : Int} {v : Nat} {b : List Nat} (hd : CD m (-1)) (hg : g = 1 ∨ g = 2) (h : Two m g v b) (hv : v < 1099511627776) {c : Nat} (hc : 1 ≤ c ∧ c ≤ 1099511627776) {body : List Nat} (hn : body.length ≤ 43) (hb : ∀ x ∈ body, x < 256) :
    ∃ m', m.store 0 g (c : Int) body = (0, m') ∧ CD m' (-1) ∧ Two m' g (v + 1) body ∧ (∀ t, t ≠ secV g 0 → t ≠ secV g 1 → m'.hold t = m.hold t) := by
  obtain ⟨f, o, hf, ho, _, _, hs⟩ := h.store hd hg hv hc hn
  have ho1 : o ≤ 1 := by omega
  obtain ⟨m', q, e, h1, h2, h3⟩ := hd.two_ok (a := secV g f) (b := secV g o) (.inl rfl) (secV_lt hg hf) (secV_lt hg ho1) (sealC_sect (may_new hg hf hv hc) hn hb) (sealC_sect (may_new hg ho1 hv hc) hn hb)
  obtain rfl := h2 rfl
  refine ⟨m', by rw [hs, e], h1, .inr ⟨by omega, c, c, ?_, ?_⟩, fun t t0 t1 => ?_⟩
  · have hff : f = 0 ∨ f = 1 := by omega
    rcases hff with rfl | rfl
    · obtain rfl : o = 1 := by omega
      rw [h3, if_neg secV_ne, if_pos rfl]
      exact cop_seal (may_new hg (p := 0) (by omega) hv hc) hn
    · obtain rfl : o = 0 := by omega
      rw [h3, if_pos rfl]
      exact cop_seal (may_new hg (p := 0) (by omega) hv hc) hn
  · have hff : f = 0 ∨ f = 1 := by omega
    rcases hff with rfl | rfl
    · obtain rfl : o = 1 := by omega
      rw [h3, if_pos rfl]
      exact cop_seal (may_new hg (p := 1) (by omega) hv hc) hn
    · obtain rfl : o = 0 := by omega
      rw [h3, if_neg (fun e => secV_ne e.symm), if_pos rfl]
      exact cop_seal (may_new hg (p := 1) (by omega) hv hc) hn
  · have hff : f = 0 ∨ f = 1 := by omega
    rw [h3]
    rcases hff with rfl | rfl
    · obtain rfl : o = 1 := by omega
      rw [if_neg t1, if_neg t0]
    · obtain rfl : o = 0 := by omega
      rw [if_neg t0, if_neg t1]
end Go.Proofs.YtlikhmhomkiadaaGreatDoor
