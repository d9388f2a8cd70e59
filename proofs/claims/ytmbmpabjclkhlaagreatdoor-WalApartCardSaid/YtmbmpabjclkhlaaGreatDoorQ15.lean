/-
  The contracts of restBytes, meantBytes and isBad.
-/
import Derived.Test.YtmbmpabjclkhlaaGreatDoorQ00
import Derived.Test.YtmbmpabjclkhlaaGreatDoorQ04
import Derived.Test.YtmbmpabjclkhlaaGreatDoorQ09
import Derived.Test.YtmbmpabjclkhlaaGreatDoorQ14
import Derived.Deep.RegionHeld3
import Derived.RangeFuncNested
import Derived.RangeFuncBound
import Derived.RangeFuncCalls
import Derived.RangeFuncLeaves
import Derived.Shelf.Abstract
import Derived.Shelf.RegionOpen
import Derived.WalkKit
import Derived.OwnWalkIn
import Derived.TacticsInMore
import Derived.LoopNIn
import Derived.LoopIn
import Derived.RangeFuncBox
import Derived.Maps.AppendAt
import Derived.Deep.MidRow
import Derived.Deep.QuietTactic
namespace Go.Proofs.YtmbmpabjclkhlaaGreatDoor
set_option maxRecDepth 100000
section
open Go Go.RowKit
structure Gath (w0 w : World) (v : Value) (l : List Nat) (k : Nat) : Prop where
  own : w.ownsRow w0.heap.size 5 1 v l.length (vb l)
  lt : ∀ b ∈ l, b < 256
  few : l.length ≤ 64 * k
  ext : Ext w0 w
theorem Gath.start (w : World) : Gath w w (.slice none 0 0) [] 0 := ⟨World.ownsRow_nil _ _ _ _, fun b hb => (by cases hb), by simp, Ext.refl w⟩
theorem Gath.more {w0 w w' : World} {v : Value} {l : List Nat} {k : Nat} (h : Gath w0 w v l k) (hx : Ext w w') : Gath w0 w' v l k := ⟨own_ext h.own hx, h.lt, h.few, h.ext.trans hx⟩
theorem Gath.form {w0 w : World} {v : Value} {l : List Nat} {k : Nat} (h : Gath w0 w v l k) : ∃ A c, v = .slice A l.length c ∧ By w A l.length c l := by
  obtain ⟨A, c, rfl, _, _⟩ := own_form h.own
  exact ⟨A, c, rfl, Bs.of_own h.own h.lt⟩
theorem Gath.app {w0 w w' : World} {v v' : Value} {l l2 : List Nat} {k : Nat} (h : Gath w0 w v l k) (hg : w.grownBy w' v.ownBlock) (ho : w'.ownsRow w0.heap.size 5 1 v' (l.length + l2.length) (vb l ++ vb l2)) (hl : ∀ b ∈ l2, b < 256) (hn : l2.length ≤ 64) : Gath w0 w' v' (l ++ l2) (k + 1) := by
  refine ⟨by rw [List.length_append, vb_append]; exact ho, fun b hb => (List.mem_append.1 hb).elim (h.lt b) (hl b), ?_, Below.grown h.ext hg (Ext.size h.ext) (fun g hg' => (h.own.lt g hg').1)⟩
  have := h.few
  rw [List.length_append]
  omega
end
section
structure NInv (m : DM) : Prop where
  ok : m.Ok
  same : ∀ i, m.rest.getD i [] = m.meant.getD i []
  none_ : ∀ i, m.lost.getD i false = false
theorem NInv.of_eq {m m' : DM} (h : NInv m) (hok : m'.Ok) (h1 : m'.rest = m.rest) (h2 : m'.meant = m.meant) (h3 : m'.lost = m.lost) : NInv m' :=
  ⟨hok, fun i => by rw [h1, h2]; exact h.same i, fun i => by rw [h3]; exact h.none_ i⟩
theorem NInv.comes {m : DM} (h : NInv m) {l : List (Nat × List Nat)} (hl : ∀ x ∈ l, x ∈ m.waits) : NInv (m.comes l) := by
  have g := comes_get l m h.ok fun x hx => (h.ok.waits x (hl x hx)).1
  refine ⟨DM.comes_ok l h.ok fun x hx => (h.ok.waits x (hl x hx)).2, fun i => ?_, fun i => ?_⟩
  · rw [(g i).1, (g i).2.1, h.same i]
  · rw [(g i).2.2, h.none_ i]
    split <;> rfl
theorem NInv.write {m : DM} (h : NInv m) (s : Int) {b : List Nat} (hb : ∀ x ∈ b, x < 256) : NInv (m.write s b).2 := by
  have hok := DM.write_ok h.ok s hb
  revert hok
  unfold DM.write
  split
  · intro _; exact h
  · split
    · intro _; exact h
    · split
      · intro hok; exact h.of_eq hok rfl rfl rfl
      · intro hok; exact h.of_eq hok rfl rfl rfl
theorem NInv.act {m : DM} (h : NInv m) (kind : Nat) (sec num : Int) {bytes : List Nat} (hb : ∀ x ∈ bytes, x < 256) (keep : List Bool) (hk : ¬ (3 ≤ kind % 9 ∧ kind % 9 ≤ 5)) : NInv (m.act kind sec num bytes keep).2 := by
  have hok := DM.act_ok h.ok kind sec num hb keep
  have h9 : kind % 9 < 9 := Nat.mod_lt _ (by omega)
  have hcase : kind % 9 = 0 ∨ kind % 9 = 1 ∨ kind % 9 = 2 ∨ kind % 9 = 6 ∨ kind % 9 = 7 ∨ kind % 9 = 8 := by omega
  unfold DM.act at hok ⊢
  rcases hcase with e | e | e | e | e | e
  · simp only [e] at hok ⊢
    revert hok
    unfold DM.flush
    split
    · intro _; exact h
    · split
      · intro hok; exact h.of_eq hok rfl rfl rfl
      · intro hok
        have h2 : NInv { m with power := lessP m.power } := h.of_eq ⟨h.ok.meant, h.ok.lost, h.ok.rests, h.ok.means, h.ok.waits, lessP_le h.ok.power⟩ rfl rfl rfl
        exact (h2.comes (l := m.waits) fun x hx => hx).of_eq hok rfl rfl rfl
  · simp only [e] at hok ⊢
    revert hok
    unfold DM.crash
    split
    · intro _; exact h
    · intro hok; exact (h.comes (l := kept m.waits keep) fun x hx => kept_mem hx).of_eq hok rfl rfl rfl
  · simp only [e] at hok ⊢
    revert hok
    unfold DM.start
    split
    · intro _; exact h
    · intro hok; exact h.of_eq hok rfl rfl rfl
  · simp only [e] at hok ⊢
    exact h.write sec (actB_lt hb)
  · simp only [e] at hok ⊢
    exact h.write sec (actB_lt hb)
  · simp only [e] at hok ⊢
    revert hok
    unfold DM.setPower
    split
    · intro _; exact h
    · split
      · intro _; exact h
      · intro hok; exact h.of_eq hok rfl rfl rfl
end
section
open Go Go.RowKit
def tagV (l : List Nat) (r g p : Int) : Value := .agg #[.int .i64 (mfl l r g p 0), .int .i64 (mfl l r g p 1), .int .i64 (mfl l r g p 2), .int .i64 (mfl l r g p 3), .int .i64 (mfl l r g p 4)]
end
section
open Go Go.RowKit
theorem seal_mine {a b c t e : Int} {s : Int} {body : List Nat} (h : sealE a b c t e body.length s = 0) : stM (sealL a b c t e body s) a b c = 1 ∧ tagV (sealL a b c t e body s) a b c = .agg #[.int .i64 a, .int .i64 b, .int .i64 c, .int .i64 t, .int .i64 e] ∧ mbl (sealL a b c t e body s) a b c = body ∧
    ((mfl (sealL a b c t e body s) a b c 0 : Nat) : Int) = a ∧ ((mfl (sealL a b c t e body s) a b c 1 : Nat) : Int) = b ∧ ((mfl (sealL a b c t e body s) a b c 2 : Nat) : Int) = c ∧ ((mfl (sealL a b c t e body s) a b c 3 : Nat) : Int) = t ∧ ((mfl (sealL a b c t e body s) a b c 4 : Nat) : Int) = e := by
  obtain ⟨hg, hb, q0, q1, q2, q3, q4⟩ := sealL_good h
  obtain ⟨e1, e2, e3⟩ := mine_yes hg ((mineB_iff hg).2 ⟨q0, q1, q2⟩)
  have f0 := e2 0
  have f1 := e2 1
  have f2 := e2 2
  have f3 := e2 3
  have f4 := e2 4
  refine ⟨e1, ?_, e3.trans hb, by rw [f0]; exact q0, by rw [f1]; exact q1, by rw [f2]; exact q2, by rw [f3]; exact q3, by rw [f4]; exact q4⟩
  unfold tagV
  rw [f0, f1, f2, f3, f4, q0, q1, q2, q3, q4]
end
section
def pair2 (a b : List Nat) : List Nat := if a = [] ∨ b = [] then [] else a ++ b
def recQ (r q : Int) (x : List Nat) : Rec :=
  if stM x r 3 q = 1 then (match recR (mbl x r 3 q) with | some (a, b, h) => { st := 1, ix := (mfl x r 3 q 3 : Nat), bx := (a : Nat), yb := (b : Nat), wh := (h : Nat) } | none => { st := 2 }) else { st := stM x r 3 q }
def copQ (r p : Int) (x : List Nat) : CopL :=
  if stM x r 4 p = 1 then (match bdR (mbl x r 4 p) with | some (a, b, e) => { st := 1, ix := (mfl x r 4 p 3 : Nat), bx := (a : Nat), yb := (b : Nat), e := e } | none => { st := 2 }) else { st := stM x r 4 p }
def DM.recM (m : DM) (r q : Int) : Rec := recQ r q (m.cb 3 q)
def DM.fb (m : DM) (p : Int) : List Nat := pair2 (m.read (firstS 4 p)).1 (m.read (firstS 4 p + 1)).1
def DM.copM (m : DM) (r p : Int) : CopL := copQ r p (m.fb p)
def DM.put2C (m : DM) (s : Int) (L : List Nat) : Int × DM :=
  if (m.write s (L.take 64)).1 ≠ 0 then m.write s (L.take 64) else
    if ((m.write s (L.take 64)).2.write (s + 1) (L.drop 64)).1 ≠ 0 then (m.write s (L.take 64)).2.write (s + 1) (L.drop 64) else ((m.write s (L.take 64)).2.write (s + 1) (L.drop 64)).2.flush
def frmW (r inc i : Int) (p x y : Int) (e : Ent) : List Nat := sealL r 4 p i inc (bodyL x y e) 2
def recW (r inc i : Int) (q x y k : Int) : List Nat := sealL r 3 q i inc (recL x y k) 1
def DM.putK (m : DM) (r inc i q k x y : Int) (e : Ent) : Int × DM :=
  if (m.put2C (firstS 4 (2 * q + k)) (frmW r inc i (2 * q + k) x y e)).1 ≠ 0 then m.put2C (firstS 4 (2 * q + k)) (frmW r inc i (2 * q + k) x y e) else
    (m.put2C (firstS 4 (2 * q + k)) (frmW r inc i (2 * q + k) x y e)).2.putC (firstS 3 q) (recW r inc i q x y k)
def placeW (i : Int) : Int := (i - 1) % 24
def DM.nextW (m : DM) (r i : Int) : Int := nextL (m.recM r (placeW i)) (m.copM r (2 * placeW i)) (m.copM r (2 * placeW i + 1)) i
def DM.putW (m : DM) (r inc i x y : Int) (e : Ent) : Int × DM := m.putK r inc i (placeW i) (m.nextW r i) x y e
def sR (q : Nat) : Nat := 4 + q
def sF (p : Nat) : Nat := 28 + 2 * p
theorem first3 {q : Nat} (h : q < 24) : firstS 3 (q : Int) = (sR q : Nat) := by
  unfold firstS sR
  rw [if_pos (by simp [plc]; omega)]
  simp [beg, wid]
theorem first4 {p : Nat} (h : p < 48) : firstS 4 (p : Int) = (sF p : Nat) := by
  unfold firstS sF
  rw [if_pos (by simp [plc]; omega)]
  simp [beg, wid]
  omega
theorem sR_lt {q : Nat} (h : q < 24) : sR q < 156 := by unfold sR; omega
theorem sF_lt {p : Nat} (h : p < 48) : sF p + 1 < 156 := by unfold sF; omega
theorem placeW_nat {i : Int} : ∃ q : Nat, placeW i = (q : Int) ∧ q < 24 := by
  unfold placeW
  exact ⟨((i - 1) % 24).toNat, by omega, by omega⟩
theorem nilW_bad (r g p : Int) : stM [] r g p = 2 := by
  have hz : szB [] = false := by decide
  rw [(mine_bad (size_bad hz)).1]
  exact stN_size hz
theorem z64W (r g p : Int) : stM z64 r g p = 0 := by
  have hz : zeroB z64 = true := by decide
  rw [(mine_bad (zero_bad hz)).1]
  exact stN_blank (by decide) hz
theorem z128W (r g p : Int) : stM (pair2 z64 z64) r g p = 0 := by
  have hz : zeroB (pair2 z64 z64) = true := by decide
  rw [(mine_bad (zero_bad hz)).1]
  exact stN_blank (by decide) hz
theorem recQ_blank (r q : Int) : recQ r q z64 = {} := by unfold recQ; rw [z64W]; rfl
theorem copQ_blank (r p : Int) : copQ r p (pair2 z64 z64) = {} := by unfold copQ; rw [z128W]; rfl
theorem recQ_st (r q : Int) (x : List Nat) : (recQ r q x).st ≤ 2 := by
  unfold recQ
  split
  · split <;> simp
  · simp only
    unfold stM stN
    (repeat' split) <;> omega
theorem copQ_st (r q : Int) (x : List Nat) : (copQ r q x).st ≤ 2 := by
  unfold copQ
  split
  · split <;> simp
  · simp only
    unfold stM stN
    (repeat' split) <;> omega
theorem recQ_wh (r q : Int) (x : List Nat) : (recQ r q x).wh = 0 ∨ (recQ r q x).wh = 1 := by
  unfold recQ
  split
  · split
    · rename_i h
      have := (recR_some h).2.1
      simp only
      omega
    · exact .inl rfl
  · exact .inl rfl
theorem sealW3 {r inc i q x y k : Int} (hm : mayB r 3 q i inc = true) : sealE r 3 q i inc (recL x y k).length 1 = 0 := sealE_yes (by decide) hm (by rw [recL_length, roomN_one]; omega)
theorem sealW4 {r inc i p x y : Int} {e : Ent} (hm : mayB r 4 p i inc = true) (he : enOk e = true) : sealE r 4 p i inc (bodyL x y e).length 2 = 0 := sealE_yes (by decide) hm (by have := bodyL_len (x := x) (y := y) he; rw [roomN_two]; omega)
theorem recW_back {r inc i q x y k : Int} (hm : mayB r 3 q i inc = true) (hb : balE x y = true) (hk : k = 0 ∨ k = 1) : recQ r q (recW r inc i q x y k) = { st := 1, ix := i, bx := x, yb := y, wh := k } := by
  obtain ⟨h1, _, h3, _, _, _, h4, _⟩ := seal_mine (sealW3 (x := x) (y := y) (k := k) hm)
  obtain ⟨a, b, c, ea, eb, ec, hr⟩ := rec_back (recB_iff.2 ⟨balE_iff.1 hb, hk⟩)
  unfold recQ recW
  rw [if_pos h1, h3, hr]
  simp only
  rw [h4, ← ea, ← eb, ← ec]
theorem frmW_back {r inc i p x y : Int} {e : Ent} (hm : mayB r 4 p i inc = true) (hb : balE x y = true) (he : enOk e = true) : copQ r p (frmW r inc i p x y e) = { st := 1, ix := i, bx := x, yb := y, e := e } := by
  obtain ⟨h1, _, h3, _, _, _, h4, _⟩ := seal_mine (sealW4 (x := x) (y := y) hm he)
  obtain ⟨a, b, ea, eb, hr⟩ := bd_back he hb
  unfold copQ frmW
  rw [if_pos h1, h3, hr]
  simp only
  rw [h4, ← ea, ← eb]
theorem recW_sect {r inc i q x y k : Int} (hm : mayB r 3 q i inc = true) (hb : recB x y k = true) : Sect (recW r inc i q x y k) := by
  have hE := sealW3 (x := x) (y := y) (k := k) hm
  exact ⟨by unfold recW; rw [(sealL_len hE).1]; rfl, sealL_lt (recL_lt hb)⟩
theorem frmW_sects {r inc i p x y : Int} {e : Ent} (hm : mayB r 4 p i inc = true) (hb : balE x y = true) (he : enOk e = true) : Sect ((frmW r inc i p x y e).take 64) ∧ Sect ((frmW r inc i p x y e).drop 64) ∧ pair2 ((frmW r inc i p x y e).take 64) ((frmW r inc i p x y e).drop 64) = frmW r inc i p x y e := by
  have hE := sealW4 (x := x) (y := y) hm he
  have hl : (frmW r inc i p x y e).length = 128 := by unfold frmW; rw [(sealL_len hE).1]; rfl
  have hb : ∀ z ∈ frmW r inc i p x y e, z < 256 := sealL_lt (bodyL_lt he hb)
  have h1 : ((frmW r inc i p x y e).take 64).length = 64 := by rw [List.length_take, hl]; rfl
  have h2 : ((frmW r inc i p x y e).drop 64).length = 64 := by rw [List.length_drop, hl]
  refine ⟨⟨h1, fun z hz => hb z (List.mem_of_mem_take hz)⟩, ⟨h2, fun z hz => hb z (List.mem_of_mem_drop hz)⟩, ?_⟩
  unfold pair2
  rw [if_neg (by
    rintro (h | h)
    · rw [h] at h1; cases h1
    · rw [h] at h2; cases h2), List.take_append_drop]
end
section
structure Tch (m : DM) (T : Nat → Prop) (h0 : Nat → List Nat) : Prop where
  ok : m.Ok
  size : m.size = 156
  down : m.down = false
  waits : ∀ x ∈ m.waits, T x.1
  hold : ∀ t, ¬ T t → m.hold t = h0 t
section
variable {m : DM} {T : Nat → Prop} {h0 : Nat → List Nat}
theorem Tch.of_eq {m' : DM} (h : Tch m T h0) (hok : m'.Ok) (hs : m'.size = m.size) (hd : m'.down = m.down) (hw : m'.waits = m.waits) (h1 : m'.rest = m.rest) (h2 : m'.lost = m.lost) : Tch m' T h0 :=
  ⟨hok, hs.trans h.size, hd.trans h.down, by rw [hw]; exact h.waits, fun t ht => by rw [← h.hold t ht]; unfold DM.hold; rw [h1, h2]⟩
theorem Tch.write (h : Tch m T h0) {s : Nat} (hs : T s) {L : List Nat} (hb : ∀ x ∈ L, x < 256) : Tch (m.write (s : Int) L).2 T h0 := by
  have hok := DM.write_ok h.ok (s : Int) hb
  unfold DM.write at hok ⊢
  split
  · exact h
  · split
    · exact h
    · split
      · exact h.of_eq ⟨h.ok.meant, h.ok.lost, h.ok.rests, h.ok.means, h.ok.waits, h.ok.power⟩ rfl rfl rfl rfl rfl
      · rename_i h1 h2 h3
        rw [if_neg h1, if_neg h2, if_neg h3] at hok
        refine ⟨hok, h.size, h.down, fun x hx => ?_, h.hold⟩
        rcases List.mem_append.1 hx with hx | hx
        · exact h.waits x hx
        · simp only [List.mem_singleton] at hx
          subst hx
          exact hs
theorem Tch.comes (h : Tch m T h0) {l : List (Nat × List Nat)} (hl : ∀ x ∈ l, x ∈ m.waits) : ∀ t, ¬ T t → (m.comes l).hold t = h0 t := fun t ht => by
  have hn : lastW l t = none := lastW_none fun x hx he => ht (by rw [← he]; exact h.waits x (hl x hx))
  rw [hold_comes h.ok fun x hx => (h.ok.waits x (hl x hx)).1, hn]
  exact h.hold t ht
theorem Tch.flush (h : Tch m T h0) : Tch m.flush.2 T h0 := by
  have hok := DM.flush_ok h.ok
  unfold DM.flush at hok ⊢
  split
  · exact h
  · split
    · exact h.of_eq ⟨h.ok.meant, h.ok.lost, h.ok.rests, h.ok.means, h.ok.waits, h.ok.power⟩ rfl rfl rfl rfl rfl
    · rename_i h1 h2
      rw [if_neg h1, if_neg h2] at hok
      have h' : Tch ({ m with power := lessP m.power } : DM) T h0 := h.of_eq ⟨h.ok.meant, h.ok.lost, h.ok.rests, h.ok.means, h.ok.waits, lessP_le h.ok.power⟩ rfl rfl rfl rfl rfl
      obtain ⟨w1, w2, w3, w4⟩ := DM.comes_waits m.waits ({ m with power := lessP m.power } : DM)
      refine ⟨hok, ?_, w2.trans h.down, fun x hx => (by cases hx), h'.comes fun x hx => hx⟩
      show (DM.comes _ _).size = 156
      rw [DM.comes_size]
      exact h.size
theorem Tch.putC (h : Tch m T h0) {s : Nat} (hs : T s) {L : List Nat} (hb : ∀ x ∈ L, x < 256) : Tch (m.putC (s : Int) L).2 T h0 := by
  unfold DM.putC
  split
  · exact h.write hs hb
  · exact (h.write hs hb).flush
theorem Tch.put2C (h : Tch m T h0) {s : Nat} (hs : T s) (hs1 : T (s + 1)) {L : List Nat} (hb : ∀ x ∈ L, x < 256) : Tch (m.put2C (s : Int) L).2 T h0 := by
  have h1 := h.write hs (L := L.take 64) fun x hx => hb x (List.mem_of_mem_take hx)
  have h2 := h1.write hs1 (L := L.drop 64) fun x hx => hb x (List.mem_of_mem_drop hx)
  rw [show ((s + 1 : Nat) : Int) = (s : Int) + 1 from by omega] at h2
  unfold DM.put2C
  split
  · exact h1
  · split
    · exact h2
    · exact h2.flush
def putT (q p : Nat) (t : Nat) : Prop := t = sR q ∨ t = sF p ∨ t = sF p + 1
theorem Tch.putK {q p : Nat} (hq : q < 24) (hp : p < 48) {r inc i k x y : Int} {e : Ent} (hpk : 2 * (q : Int) + k = (p : Int)) (h : Tch m (putT q p) h0) (hb : ∀ z ∈ frmW r inc i (p : Int) x y e, z < 256) (hc : ∀ z ∈ recW r inc i (q : Int) x y k, z < 256) :
    Tch (m.putK r inc i (q : Int) k x y e).2 (putT q p) h0 := by
  unfold DM.putK
  rw [hpk, first4 hp, first3 hq]
  have h1 := h.put2C (s := sF p) (.inr (.inl rfl)) (.inr (.inr rfl)) hb
  split
  · exact h1
  · exact h1.putC (s := sR q) (.inl rfl) hc
end
theorem Tch.again {m : DM} {T : Nat → Prop} {h0 : Nat → List Nat} (h : Tch m T h0) (k : List Bool) : (m.crash k).1 = 0 ∧ (m.crash k).2.start.1 = 0 ∧ CD (m.crash k).2.start.2 (-1) ∧ ∀ t, ¬ T t → (m.crash k).2.start.2.hold t = h0 t := by
  obtain ⟨a, b, c, d⟩ := CB.again (m := m) (w := m.waits) ⟨h.ok, h.size, rfl, h.down⟩ k
  refine ⟨a, b, c, fun t ht => ?_⟩
  have hn : lastW (kept m.waits k) t = none := lastW_none fun x hx he => ht (by rw [← he]; exact h.waits x (kept_mem hx))
  rw [d t, hn]
  exact h.hold t ht
theorem NInv.flush {m : DM} (h : NInv m) : NInv m.flush.2 := by
  have := h.act 0 0 0 (bytes := []) (fun _ hx => by cases hx) [] (by omega)
  exact this
section
variable {m : DM} {s : Nat} {L : List Nat}
theorem CD.put2C (h : CD m (-1)) (hs : s + 1 < 156) (h1 : Sect (L.take 64)) (h2 : Sect (L.drop 64)) : ∃ m', m.put2C (s : Int) L = (0, m') ∧ CD m' (-1) ∧ (NInv m → NInv m') ∧ ∀ t, m'.hold t = if t = s + 1 then L.drop 64 else if t = s then L.take 64 else m.hold t := by
  have hw1 : m.write (s : Int) (L.take 64) = (0, { m with power := -1, waits := [(s, L.take 64)] }) := by
    rw [h.write1 (by omega) (by omega) h1]; rfl
  obtain ⟨m1, hm1⟩ : ∃ m1 : DM, m1 = { m with power := -1, waits := [(s, L.take 64)] } := ⟨_, rfl⟩
  rw [← hm1] at hw1
  have hu : m1.up = true := by rw [hm1]; unfold DM.up; show (!(m.down || m.dead)) = true; rw [h.b.down, h.dead]; rfl
  have hh : m1.has ((s : Int) + 1) = true := DM.has_iff.2 ⟨by omega, by rw [hm1]; show (s : Int) + 1 < (m.size : Int); rw [h.b.size]; omega⟩
  have hw2 : m1.write ((s : Int) + 1) (L.drop 64) = (0, { m with power := -1, waits := [(s, L.take 64), (s + 1, L.drop 64)] }) := by
    unfold DM.write
    rw [if_neg (by rw [hu]; simp), if_neg (by rw [hh, h2.1]; simp), if_neg (by rw [hm1]; show ¬ (-1 : Int) = 0; omega), hm1]
    show _ = _
    rw [show ((s : Int) + 1).toNat = s + 1 from by omega]
    rfl
  obtain ⟨m2, hm2⟩ : ∃ m2 : DM, m2 = { m with power := -1, waits := [(s, L.take 64), (s + 1, L.drop 64)] } := ⟨_, rfl⟩
  rw [← hm2] at hw2
  have hok2 : m2.Ok := by
    have := DM.write_ok (DM.write_ok h.b.ok (s : Int) h1.2) ((s : Int) + 1) h2.2
    rw [hw1, hw2] at this
    exact this
  have hu2 : m2.up = true := by rw [hm2]; unfold DM.up; show (!(m.down || m.dead)) = true; rw [h.b.down, h.dead]; rfl
  have hf : m2.flush = (0, { (m2.comes m2.waits) with waits := [] }) := by
    unfold DM.flush
    rw [if_neg (by rw [hu2]; simp), if_neg (by rw [hm2]; show ¬ (-1 : Int) = 0; omega)]
    rw [hm2]
    rfl
  obtain ⟨w1, w2, w3, w4⟩ := DM.comes_waits m2.waits m2
  refine ⟨{ (m2.comes m2.waits) with waits := [] }, ?_, ⟨⟨?_, ?_, rfl, ?_⟩, ?_, ?_⟩, fun hn => ?_, fun t => ?_⟩
  · unfold DM.put2C
    rw [hw1, if_neg (by simp)]
    show (if (m1.write ((s : Int) + 1) (L.drop 64)).1 ≠ 0 then _ else _) = _
    rw [hw2, if_neg (by simp)]
    exact hf
  · have := DM.flush_ok hok2; rw [hf] at this; exact this
  · show (m2.comes m2.waits).size = 156
    rw [DM.comes_size, hm2]
    exact h.b.size
  · exact w2.trans (by rw [hm2]; exact h.b.down)
  · exact w3.trans (by rw [hm2]; exact h.dead)
  · exact w4.trans (by rw [hm2])
  · have := ((hn.write (s : Int) h1.2).write ((s : Int) + 1) h2.2).flush
    rw [hw1] at this
    dsimp only at this
    rw [hw2] at this
    dsimp only at this
    rw [hf] at this
    exact this
  · show (m2.comes m2.waits).hold t = _
    rw [hold_comes hok2 fun x hx => (hok2.waits x hx).1, hm2]
    show (lastW ([(s, L.take 64)] ++ [(s + 1, L.drop 64)]) t).getD (m.hold t) = _
    rw [lastW_snoc]
    dsimp only
    by_cases ht : t = s + 1
    · rw [if_pos ht.symm, if_pos ht]; rfl
    · rw [if_neg (fun e => ht e.symm), if_neg ht]
      show (lastW ([] ++ [(s, L.take 64)]) t).getD (m.hold t) = _
      rw [lastW_snoc]
      dsimp only
      by_cases hts : t = s
      · rw [if_pos hts.symm, if_pos hts]; rfl
      · rw [if_neg (fun e => hts e.symm), if_neg hts]; rfl
theorem NInv.putC (h : NInv m) (hb : ∀ x ∈ L, x < 256) (t : Int) : NInv (m.putC t L).2 := by
  unfold DM.putC
  split
  · exact h.write t hb
  · exact (h.write t hb).flush
theorem CD.putK {q p : Nat} (hq : q < 24) (hp : p < 48) {r inc i k x y : Int} {e : Ent} (hpk : 2 * (q : Int) + k = (p : Int)) (h : CD m (-1)) (h1 : Sect ((frmW r inc i (p : Int) x y e).take 64)) (h2 : Sect ((frmW r inc i (p : Int) x y e).drop 64)) (h3 : Sect (recW r inc i (q : Int) x y k)) :
    ∃ m', m.putK r inc i (q : Int) k x y e = (0, m') ∧ CD m' (-1) ∧ (NInv m → NInv m') ∧ ∀ t, m'.hold t = if t = sR q then recW r inc i (q : Int) x y k else if t = sF p + 1 then (frmW r inc i (p : Int) x y e).drop 64 else if t = sF p then (frmW r inc i (p : Int) x y e).take 64 else m.hold t := by
  obtain ⟨m1, e1, c1, n1, g1⟩ := h.put2C (s := sF p) (sF_lt hp) h1 h2
  obtain ⟨m2, e2, c2, g2⟩ := c1.put2 (s := sR q) (.inl rfl) (sR_lt hq) h3
  refine ⟨m2, ?_, c2, fun hn => ?_, fun t => ?_⟩
  · unfold DM.putK
    rw [hpk, first4 hp, first3 hq, e1, if_neg (by simp)]
    exact e2
  · have := (n1 hn).putC h3.2 (sR q : Int)
    rw [e2] at this
    exact this
  · rw [g2 t, g1 t]
end
section
variable {m : DM} {pw : Int}
theorem CD.recM (h : CD m pw) {q : Nat} (hq : q < 24) (r : Int) : m.recM r (q : Int) = recQ r (q : Int) (m.hold (sR q)) := by
  unfold DM.recM DM.cb
  rw [first3 hq, h.read (sR_lt hq)]
theorem CD.copM (h : CD m pw) {p : Nat} (hp : p < 48) (r : Int) : m.copM r (p : Int) = copQ r (p : Int) (pair2 (m.hold (sF p)) (m.hold (sF p + 1))) := by
  unfold DM.copM DM.fb
  rw [first4 hp, h.read (by have := sF_lt hp; omega), show ((sF p : Nat) : Int) + 1 = ((sF p + 1 : Nat) : Int) from by omega, h.read (sF_lt hp)]
theorem slot_same {m m' : DM} {pw pw' : Int} (h : CD m pw) (h' : CD m' pw') {q : Nat} (hq : q < 24) (r : Int) (ht : ∀ t, (t = sR q ∨ t = sF (2 * q) ∨ t = sF (2 * q) + 1 ∨ t = sF (2 * q + 1) ∨ t = sF (2 * q + 1) + 1) → m'.hold t = m.hold t) :
    m'.recM r (q : Int) = m.recM r (q : Int) ∧ m'.copM r ((2 * q : Nat) : Int) = m.copM r ((2 * q : Nat) : Int) ∧ m'.copM r ((2 * q + 1 : Nat) : Int) = m.copM r ((2 * q + 1 : Nat) : Int) := by
  refine ⟨?_, ?_, ?_⟩
  · rw [h.recM hq, h'.recM hq, ht _ (.inl rfl)]
  · rw [h.copM (by omega), h'.copM (by omega), ht _ (.inr (.inl rfl)), ht _ (.inr (.inr (.inl rfl)))]
  · rw [h.copM (by omega), h'.copM (by omega), ht _ (.inr (.inr (.inr (.inl rfl)))), ht _ (.inr (.inr (.inr (.inr rfl))))]
theorem putT_far {q q' p : Nat} (hq : q < 24) (hq' : q' < 24) (hne : q' ≠ q) (hp : p = 2 * q ∨ p = 2 * q + 1) {t : Nat} (ht : t = sR q' ∨ t = sF (2 * q') ∨ t = sF (2 * q') + 1 ∨ t = sF (2 * q' + 1) ∨ t = sF (2 * q' + 1) + 1) : ¬ putT q p t := by
  unfold putT sR sF at *
  omega
theorem new_recM {q : Nat} (hq : q < 24) (r : Int) : (DM.new 156).recM r (q : Int) = {} := by rw [CD.new.recM hq, new_hold (sR_lt hq), recQ_blank]
theorem new_copM {p : Nat} (hp : p < 48) (r : Int) : (DM.new 156).copM r (p : Int) = {} := by
  have := sF_lt hp
  rw [CD.new.copM hp, new_hold (by omega), new_hold this, copQ_blank]
end
end
section
open Go
def LowF (i x y : Int) (c : CopL) : Prop := c = {} ∨ (c.st = 1 ∧ c.ix = i ∧ gtL x y c.bx c.yb) ∨ (c.st = 1 ∧ c.ix < i)
def SlH (j : Int) (o : Option (Int × Int × Ent)) (p : Rec) (f0 f1 : CopL) : Prop :=
  match o with
  | none => p = {} ∧ f0 = {} ∧ f1 = {}
  | some (x, y, e) => ∃ k : Int, (k = 0 ∨ k = 1) ∧ p = { st := 1, ix := j, bx := x, yb := y, wh := k } ∧ cop f0 f1 k = { st := 1, ix := j, bx := x, yb := y, e := e } ∧ LowF j x y (cop f0 f1 (1 - k))
theorem gt_irr (x y : Int) : ¬ gtL x y x y := by unfold gtL; omega
theorem low_cand {i x y : Int} {k : Int} {c : CopL} (h : LowF i x y c) : ¬ candL { st := 1, ix := i, bx := x, yb := y, wh := k } c i := by
  rintro ⟨⟨h1, h2⟩, h3⟩
  rcases h with rfl | ⟨_, _, h⟩ | ⟨_, h⟩
  · cases h1
  · exact h3 h
  · omega
theorem low_st {i x y : Int} {c : CopL} (h : LowF i x y c) : c.st ≤ 1 ∧ (c.st = 1 → c.ix ≤ i) := by
  rcases h with rfl | ⟨h1, h2, _⟩ | ⟨h1, h2⟩
  · exact ⟨by simp, fun h => by cases h⟩
  · exact ⟨by omega, fun _ => by omega⟩
  · exact ⟨by omega, fun _ => by omega⟩
theorem pickW_tf {a b h : Prop} [Decidable a] [Decidable b] [Decidable h] (ha : a) (hb : ¬ b) : pickW a b h = 0 := by unfold pickW; rw [if_neg (fun x => hb x.2), if_pos ha]
theorem pickW_ft {a b h : Prop} [Decidable a] [Decidable b] [Decidable h] (ha : ¬ a) (hb : b) : pickW a b h = 1 := by unfold pickW; rw [if_neg (fun x => ha x.1), if_neg ha, if_pos hb]
theorem pickW_ff {a b h : Prop} [Decidable a] [Decidable b] [Decidable h] (ha : ¬ a) (hb : ¬ b) : pickW a b h = -1 := by unfold pickW; rw [if_neg (fun x => ha x.1), if_neg ha, if_neg hb]
theorem where_cand0 {p : Rec} {f0 f1 : CopL} {i : Int} (hp : p.of i) (h0 : candL p f0 i) (h1 : ¬ candL p f1 i) : whereL p f0 f1 i = 0 := by
  unfold whereL
  rw [if_pos hp]
  split
  · exact pickW_tf h0 h1
  · exact pickW_tf h0 h1
theorem where_cand1 {p : Rec} {f0 f1 : CopL} {i : Int} (hp : p.of i) (h0 : ¬ candL p f0 i) (h1 : candL p f1 i) : whereL p f0 f1 i = 1 := by
  unfold whereL
  rw [if_pos hp]
  split
  · exact pickW_ft h0 h1
  · exact pickW_ft h0 h1
theorem new_cand {i x y k : Int} {e : Ent} {c : CopL} (h : c = { st := 1, ix := i, bx := x, yb := y, e := e }) : candL { st := 1, ix := i, bx := x, yb := y, wh := k } c i := by
  subst h
  exact ⟨⟨rfl, rfl⟩, gt_irr x y⟩
theorem SlH.where_ {i x y : Int} {e : Ent} {p : Rec} {f0 f1 : CopL} (h : SlH i (some (x, y, e)) p f0 f1) : ∃ k : Int, (k = 0 ∨ k = 1) ∧ whereL p f0 f1 i = k ∧ cop f0 f1 k = { st := 1, ix := i, bx := x, yb := y, e := e } := by
  obtain ⟨k, hk, rfl, hc, hl⟩ := h
  refine ⟨k, hk, ?_, hc⟩
  rcases hk with rfl | rfl
  · exact where_cand0 ⟨rfl, rfl⟩ (new_cand hc) (low_cand hl)
  · exact where_cand1 ⟨rfl, rfl⟩ (low_cand hl) (new_cand hc)
theorem SlH.told {i x y : Int} {e : Ent} {p : Rec} {f0 f1 : CopL} (h : SlH i (some (x, y, e)) p f0 f1) : classL p f0 f1 i = 3 ∧ repX p f0 f1 i = x ∧ repY p f0 f1 i = y ∧ repE p f0 f1 i = e := by
  obtain ⟨k, hk, hw, hc⟩ := h.where_
  have h0 : 0 ≤ whereL p f0 f1 i := by omega
  refine ⟨classL_three.2 h0, ?_, ?_, ?_⟩
  · unfold repX; rw [if_pos h0, hw, hc]
  · unfold repY; rw [if_pos h0, hw, hc]
  · unfold repE; rw [if_pos h0, hw, hc]
theorem SlH.most {j : Int} {o : Option (Int × Int × Ent)} {p : Rec} {f0 f1 : CopL} (h : SlH j o p f0 f1) : p.st ≤ 1 ∧ f0.st ≤ 1 ∧ f1.st ≤ 1 ∧ (p.st = 1 → p.ix ≤ j) ∧ (f0.st = 1 → f0.ix ≤ j) ∧ (f1.st = 1 → f1.ix ≤ j) ∧ (p.wh = 0 ∨ p.wh = 1) := by
  match o, h with
  | none, h =>
    obtain ⟨rfl, rfl, rfl⟩ := h
    exact ⟨by simp, by simp, by simp, (fun h => by cases h), (fun h => by cases h), (fun h => by cases h), .inl rfl⟩
  | some (x, y, e), h =>
    obtain ⟨k, hk, rfl, hc, hl⟩ := h
    have hl := low_st hl
    have h1 : (cop f0 f1 k).st ≤ 1 ∧ ((cop f0 f1 k).st = 1 → (cop f0 f1 k).ix ≤ j) := by rw [hc]; exact ⟨by simp, fun _ => by simp⟩
    rcases hk with rfl | rfl
    · exact ⟨by simp, h1.1, hl.1, fun _ => by simp, h1.2, hl.2, .inl rfl⟩
    · exact ⟨by simp, hl.1, h1.1, fun _ => by simp, hl.2, h1.2, .inr rfl⟩
theorem where_newer {i : Int} {p : Rec} {f0 f1 : CopL} (h0 : p.st ≤ 1) (hp : p.st = 1 → p.ix < i) (h1 : f0.st = 1 → f0.ix < i) (h2 : f1.st = 1 → f1.ix < i) : whereL p f0 f1 i = -1 ∧ ¬ p.of i ∧ ¬ beyL p f0 f1 i := by
  have hn : ¬ p.of i := fun h => by have := hp h.1; have := h.2; omega
  have hb : ¬ beyL p f0 f1 i := by
    rintro (⟨a, b⟩ | ⟨a, b⟩ | ⟨a, b⟩)
    · have := hp a; omega
    · have := h1 a; omega
    · have := h2 a; omega
  refine ⟨?_, hn, hb⟩
  unfold whereL
  rw [if_neg hn, if_neg (by rintro (h | h); exact hb h; have := h.1; omega)]
  exact pickW_ff (fun h => by have := h1 h.1; have := h.2; omega) (fun h => by have := h2 h.1; have := h.2; omega)
theorem absent_newer {i : Int} {p : Rec} {f0 f1 : CopL} (h0 : p.st ≤ 1) (hp : p.st = 1 → p.ix < i) (h1 : f0.st = 1 → f0.ix < i) (h2 : f1.st = 1 → f1.ix < i) (k1 : f0.st ≤ 1) (k2 : f1.st ≤ 1) : classL p f0 f1 i = 0 := by
  obtain ⟨a, b, c⟩ := where_newer h0 hp h1 h2
  unfold classL
  rw [if_neg (by omega), if_neg b, if_neg (by rintro (h | h); exact c h; have := h.1; omega), if_neg (by unfold badL; omega)]
theorem SlH.newer {i j : Int} {o : Option (Int × Int × Ent)} {p : Rec} {f0 f1 : CopL} (h : SlH j o p f0 f1) (hij : j < i) : classL p f0 f1 i = 0 := by
  obtain ⟨a, b, c, d, e, f, _⟩ := h.most
  exact absent_newer a (fun x => by have := d x; omega) (fun x => by have := e x; omega) (fun x => by have := f x; omega) b c
theorem SlH.put {i j x y : Int} {e : Ent} {o : Option (Int × Int × Ent)} {p : Rec} {f0 f1 : CopL} (h : SlH j o p f0 f1) (hc : o = none ∨ j < i ∨ (j = i ∧ ∀ a b c, o = some (a, b, c) → gtL x y a b)) :
    SlH i (some (x, y, e)) { st := 1, ix := i, bx := x, yb := y, wh := nextL p f0 f1 i } (if nextL p f0 f1 i = 0 then { st := 1, ix := i, bx := x, yb := y, e := e } else f0) (if nextL p f0 f1 i = 1 then { st := 1, ix := i, bx := x, yb := y, e := e } else f1) := by
  have hn := (nextL_two p f0 f1 i).1
  refine ⟨nextL p f0 f1 i, hn, rfl, ?_, ?_⟩
  · rcases hn with hn | hn <;> rw [hn] <;> simp [cop]
  · -- the frame that stays
    have stay : ∀ c, (c = f0 ∧ nextL p f0 f1 i = 1) ∨ (c = f1 ∧ nextL p f0 f1 i = 0) → LowF i x y c := by
      intro c hcc
      match o, h, hc with
      | none, h, _ =>
        obtain ⟨rfl, rfl, rfl⟩ := h
        rcases hcc with ⟨rfl, _⟩ | ⟨rfl, _⟩ <;> exact .inl rfl
      | some (a, b, d), h, hc =>
        by_cases hij : j < i
        · obtain ⟨_, u, v, _, q, r, _⟩ := h.most
          have hst : c.st ≤ 1 ∧ (c.st = 1 → c.ix < i) := by
            rcases hcc with ⟨rfl, _⟩ | ⟨rfl, _⟩
            · exact ⟨u, fun x => by have := q x; omega⟩
            · exact ⟨v, fun x => by have := r x; omega⟩
          by_cases h1 : c.st = 1
          · exact .inr (.inr ⟨h1, hst.2 h1⟩)
          · -- a frame of state 0 is blank
            obtain ⟨k, hk, _, hck, hl⟩ := h
            have : c = cop f0 f1 k ∨ c = cop f0 f1 (1 - k) := by
              rcases hk with rfl | rfl <;> rcases hcc with ⟨rfl, _⟩ | ⟨rfl, _⟩ <;> simp [cop]
            rcases this with hh | hh
            · rw [hh, hck] at h1; exact absurd rfl h1
            · rw [← hh] at hl
              rcases hl with hl | ⟨hl, _⟩ | ⟨hl, _⟩
              · exact .inl hl
              · exact absurd hl h1
              · exact absurd hl h1
        · have hji : j = i ∧ gtL x y a b := by
            rcases hc with hc | hc | ⟨hc, hg⟩
            · cases hc
            · exact absurd hc hij
            · exact ⟨hc, hg a b d rfl⟩
          obtain ⟨rfl, hg⟩ := hji
          obtain ⟨k, hk, hw, hck⟩ := h.where_
          have hnk : nextL p f0 f1 j = 1 - k := by unfold nextL; rw [hw, if_pos (by omega)]
          have : c = cop f0 f1 k := by
            rcases hk with rfl | rfl <;> rcases hcc with ⟨rfl, hq⟩ | ⟨rfl, hq⟩ <;> first | rfl | omega
          rw [this, hck]
          exact .inr (.inl ⟨rfl, rfl, hg⟩)
    rcases hn with hz | hz
    · have : cop (if nextL p f0 f1 i = 0 then { st := 1, ix := i, bx := x, yb := y, e := e } else f0) (if nextL p f0 f1 i = 1 then { st := 1, ix := i, bx := x, yb := y, e := e } else f1) (1 - nextL p f0 f1 i) = f1 := by rw [hz]; simp [cop]
      rw [this]
      exact stay f1 (.inr ⟨rfl, hz⟩)
    · have : cop (if nextL p f0 f1 i = 0 then { st := 1, ix := i, bx := x, yb := y, e := e } else f0) (if nextL p f0 f1 i = 1 then { st := 1, ix := i, bx := x, yb := y, e := e } else f1) (1 - nextL p f0 f1 i) = f0 := by rw [hz]; simp [cop]
      rw [this]
      exact stay f0 (.inl ⟨rfl, hz⟩)
end
section
open Go Go.RowKit Go.Shelf
attribute [local go_sem] Oper.semAt_some
theorem grown_of_ext {w w' : World} (h : Ext w w') : w.grownBy w' none := ⟨h.os, h.tape, h.output, h.size, fun k hk _ => h.block k hk⟩
theorem mod_cell {G : Nat → Prop} {w w' : World} (k : Mod G w w') {g i : Nat} {v : Value} (hg : ¬ G g) (h : w.cell? ⟨g, i, none⟩ = some v) : w'.cell? ⟨g, i, none⟩ = some v :=
  (World.cell?_of_block (a := ⟨g, i, none⟩) (k.block g (World.block_lt_of_cell? w _ h) hg)).trans h
theorem ext_of_cell {w w' : World} {g i : Nat} {v : Value} (h : Ext w w') (hc : w.cell? ⟨g, i, none⟩ = some v) : w'.cell? ⟨g, i, none⟩ = some v := (Below.cell h (p := ⟨g, i, none⟩) (World.block_lt_of_cell? w _ hc)).trans hc
theorem mod_put {G : Nat → Prop} {w W : World} (l : Nat) (o o' : Obj) (hG : ∀ k, w.heap.size ≤ k → G k) (hl : w.heap.size ≤ l) (_ : W.heap[l]? = some o) : Mod G W (W.putObj l o') :=
  (Mod.refl G W).grown (grownBy_putObj' W l o') (fun k e => by cases e; exact .inl (hG l hl))
def HurtsOn (G : Nat → Prop) (W0 : World) (p : Option Addr) (a : Int) (k : Nat) (h : Int → Bool) : Prop :=
  ∀ x : Int, a ≤ x → x < a + k → ∀ W, Mod G W0 W → Calls Tryz.prog 209 #[.pointer p, .int .i64 x] W fun e W' => e = .returned (.bool (h x)) ∧ Ext W W'
theorem HurtsOn.none (G : Nat → Prop) (W0 : World) (p : Option Addr) (a : Int) (h : Int → Bool) : HurtsOn G W0 p a 0 h := fun x h1 h2 => by omega
end
section
open Go Go.RowKit Go.Shelf
attribute [local go_sem] Oper.semAt_some
end
section
open Go Go.RowKit Go.Shelf
attribute [local go_sem] Oper.semAt_some
end
section
open Go Go.RowKit
def regCells : List Value := [.int .i64 0, .int .i64 0, .int .i64 2, .int .i64 1, .int .i64 2, .int .i64 1, .int .i64 24, .int .i64 1, .int .i64 48, .int .i64 2, .int .i64 16, .int .i64 2]
theorem LaidT.range {w : World} (h : LaidT w) : w.rangeAt 2 0 regCells := by
  intro j v hv
  have hj : j < 12 := (List.getElem?_eq_some_iff.1 hv).1
  have hj' : j = 0 ∨ j = 1 ∨ j = 2 ∨ j = 3 ∨ j = 4 ∨ j = 5 ∨ j = 6 ∨ j = 7 ∨ j = 8 ∨ j = 9 ∨ j = 10 ∨ j = 11 := by omega
  rw [Nat.zero_add, ← hv]
  rcases hj' with rfl | rfl | rfl | rfl | rfl | rfl | rfl | rfl | rfl | rfl | rfl | rfl
  · exact (h 0 (by omega)).1
  · exact (h 0 (by omega)).2
  · exact (h 1 (by omega)).1
  · exact (h 1 (by omega)).2
  · exact (h 2 (by omega)).1
  · exact (h 2 (by omega)).2
  · exact (h 3 (by omega)).1
  · exact (h 3 (by omega)).2
  · exact (h 4 (by omega)).1
  · exact (h 4 (by omega)).2
  · exact (h 5 (by omega)).1
  · exact (h 5 (by omega)).2
end
section
open Go Go.RowKit Go.Shelf
attribute [local go_sem] Oper.semAt_some
end
section
def SlD (m : DM) (r : Int) (q : Nat) (j : Int) (o : Option (Int × Int × Ent)) : Prop := SlH j o (m.recM r (q : Int)) (m.copM r ((2 * q : Nat) : Int)) (m.copM r ((2 * q + 1 : Nat) : Int))
def slT (q t : Nat) : Prop := t = sR q ∨ t = sF (2 * q) ∨ t = sF (2 * q) + 1 ∨ t = sF (2 * q + 1) ∨ t = sF (2 * q + 1) + 1
theorem SlD.new {q : Nat} (hq : q < 24) (r j : Int) : SlD (DM.new 156) r q j none := ⟨new_recM hq r, new_copM (by omega) r, new_copM (by omega) r⟩
theorem mayW3 {r inc i : Int} {q : Nat} (hr : 0 ≤ r ∧ r ≤ 6) (hi : 0 ≤ i ∧ i ≤ 1099511627776) (hc : 1 ≤ inc ∧ inc ≤ 1099511627776) (hq : q < 24) : mayB r 3 (q : Int) i inc = true := by
  unfold mayB
  rw [decide_eq_true_iff]
  simp [plc]
  omega
theorem mayW4 {r inc i : Int} {p : Nat} (hr : 0 ≤ r ∧ r ≤ 6) (hi : 0 ≤ i ∧ i ≤ 1099511627776) (hc : 1 ≤ inc ∧ inc ≤ 1099511627776) (hp : p < 48) : mayB r 4 (p : Int) i inc = true := by
  unfold mayB
  rw [decide_eq_true_iff]
  simp [plc]
  omega
theorem nextW_two (m : DM) (r i : Int) : m.nextW r i = 0 ∨ m.nextW r i = 1 := (nextL_two _ _ _ _).1
theorem nextW_of {m : DM} {r i : Int} {q : Nat} (hq : placeW i = (q : Int)) : m.nextW r i = nextL (m.recM r (q : Int)) (m.copM r ((2 * q : Nat) : Int)) (m.copM r ((2 * q + 1 : Nat) : Int)) i := by
  unfold DM.nextW
  rw [hq, show 2 * (q : Int) = ((2 * q : Nat) : Int) from by omega, show ((2 * q : Nat) : Int) + 1 = ((2 * q + 1 : Nat) : Int) from by omega]
theorem SlD.put {m : DM} (h : CD m (-1)) {r inc i x y : Int} {e : Ent} {q : Nat} (hq : placeW i = (q : Int)) (hq24 : q < 24) {j : Int} {o : Option (Int × Int × Ent)} (hs : SlD m r q j o) (hr : 0 ≤ r ∧ r ≤ 6) (hi : 0 ≤ i ∧ i ≤ 1099511627776) (hc : 1 ≤ inc ∧ inc ≤ 1099511627776) (hb : balE x y = true) (he : enOk e = true)
    (hcon : o = none ∨ j < i ∨ (j = i ∧ ∀ a b c, o = some (a, b, c) → gtL x y a b)) :
    ∃ m', m.putW r inc i x y e = (0, m') ∧ CD m' (-1) ∧ (NInv m → NInv m') ∧ SlD m' r q i (some (x, y, e)) ∧ ∀ q', q' < 24 → q' ≠ q → ∀ t, slT q' t → m'.hold t = m.hold t := by
  have hk := nextW_two m r i
  have hkn := nextW_of (m := m) (r := r) hq
  obtain ⟨p, hp, hp48, hpc⟩ : ∃ p : Nat, 2 * (q : Int) + m.nextW r i = (p : Int) ∧ p < 48 ∧ ((p = 2 * q ∧ m.nextW r i = 0) ∨ (p = 2 * q + 1 ∧ m.nextW r i = 1)) := by
    rcases hk with hk | hk
    · exact ⟨2 * q, by omega, by omega, .inl ⟨rfl, hk⟩⟩
    · exact ⟨2 * q + 1, by omega, by omega, .inr ⟨rfl, hk⟩⟩
  have m3 := mayW3 (q := q) hr hi hc hq24
  have m4 := mayW4 (p := p) hr hi hc hp48
  have hrb : recB x y (m.nextW r i) = true := recB_iff.2 ⟨balE_iff.1 hb, hk⟩
  obtain ⟨s1, s2, sp⟩ := frmW_sects (x := x) (y := y) (e := e) m4 hb he
  have s3 := recW_sect (x := x) (y := y) m3 hrb
  obtain ⟨m', e1, c1, n1, g1⟩ := h.putK hq24 hp48 (k := m.nextW r i) (x := x) (y := y) (e := e) hp s1 s2 s3
  have hput : m.putW r inc i x y e = (0, m') := by unfold DM.putW; rw [hq]; exact e1
  refine ⟨m', hput, c1, n1, ?_, fun q' hq' hne t ht => ?_⟩
  · -- what is read then
    have hrec : m'.recM r (q : Int) = { st := 1, ix := i, bx := x, yb := y, wh := m.nextW r i } := by
      rw [c1.recM hq24, g1, if_pos rfl]
      exact recW_back m3 hb hk
    have hnew : m'.copM r (p : Int) = { st := 1, ix := i, bx := x, yb := y, e := e } := by
      rw [c1.copM hp48, g1, g1, if_neg (by unfold sF sR; omega), if_neg (by omega), if_pos rfl, if_neg (by unfold sF sR; omega), if_pos rfl, sp]
      exact frmW_back m4 hb he
    have hold : ∀ p', p' < 48 → p' ≠ p → m'.copM r (p' : Int) = m.copM r (p' : Int) := fun p' hp' hne => by
      rw [c1.copM hp', h.copM hp', g1, g1]
      rw [if_neg (by unfold sF sR; omega), if_neg (by unfold sF; omega), if_neg (by unfold sF; omega), if_neg (by unfold sF sR; omega), if_neg (by unfold sF; omega), if_neg (by unfold sF; omega)]
    have := SlH.put (i := i) (x := x) (y := y) (e := e) hs hcon
    rw [← hkn] at this
    unfold SlD
    rw [hrec]
    rcases hpc with ⟨rfl, hz⟩ | ⟨rfl, hz⟩
    · rw [hnew, hold (2 * q + 1) (by omega) (by omega)]
      rw [hz] at this ⊢
      simpa using this
    · rw [hnew, hold (2 * q) (by omega) (by omega)]
      rw [hz] at this ⊢
      simpa using this
  · have hf := putT_far (p := p) hq24 hq' hne (by omega) ht
    unfold putT at hf
    rw [g1 t, if_neg (fun e => hf (.inl e)), if_neg (fun e => hf (.inr (.inr e))), if_neg (fun e => hf (.inr (.inl e)))]
end
end Go.Proofs.YtmbmpabjclkhlaaGreatDoor
