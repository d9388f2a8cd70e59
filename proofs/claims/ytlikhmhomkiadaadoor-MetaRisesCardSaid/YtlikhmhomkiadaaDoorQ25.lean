/-
  The contract of the ghost statements' Do.
  The contracts of the ghost statements' Do, for any act, and of put.
  The contracts of restBytes, meantBytes and isBad.
  Plain facts that the ghost statements' walks come to: disks without faults; faults leave what is meant; what put leaves.
  The contract of Honest.
  Plain facts for GhostHealed and GhostHonest: a disk that is taken up again; what Mine tells of a frame that was written.
-/
import Derived.Test.YtlikhmhomkiadaaDoorQ23
import Derived.Test.YtlikhmhomkiadaaDoorQ24
import Derived.Deep.RegionHeld3
namespace Go.Proofs.YtlikhmhomkiadaaDoor
set_option maxRecDepth 100000
open Go Go.RowKit
/-- A piece of 64 bytes within a slice. -/
theorem By.piece {w : World} {g o n c : Nat} {l : List Nat} (h : By w (some ⟨g, o, none⟩) n c l) (k : Nat) (hk : k + 64 ≤ n) : By w (some ⟨g, o + k, none⟩) 64 (c - k) ((l.drop k).take 64) := by
  have hl := h.len
  have hc := h.cap
  refine ⟨by rw [List.length_take, List.length_drop]; omega, by omega, by have := h.most; omega, (h.rd.drop rfl k).take 64, fun e => by cases e⟩
/-- What a disk's calls have left behind. -/
structure Left (w0 w : World) (d : Nat) (F : Nat → Prop) (G : Nat → Prop) (v : World) (m : DM) : Prop where
  dk : DK w0 v d F m
  le : ∀ i, F i → G i
  mod : Mod G w v
theorem Left.step {w0 w v v' : World} {d : Nat} {F G : Nat → Prop} {m m' : DM} (h : Left w0 w d F G v m) (hG : ∀ i, v.heap.size ≤ i → G i) (hp : PDisk v' d (grow F v v') m') (hm : Mod F v v') : Left w0 w d (grow F v v') G v' m' :=
  ⟨h.dk.step hp hm, fun i hi => hi.elim (h.le i) fun hh => hG i hh.1, h.mod.trans hm fun i hi => .inl (h.le i hi)⟩
theorem Left.ext {w0 w v v' : World} {d : Nat} {F G : Nat → Prop} {m : DM} (h : Left w0 w d F G v m) (hx : Ext v v') : Left w0 w d F G v' m := ⟨h.dk.ext hx, h.le, h.mod.ext hx⟩

theorem keep_box {u V w' : World} {g : Nat} {x0 x1 x2 x3 x4 x5 x6 x7 x8 x9 x10 x11 : Value} {t : TypeId} (k : Hid (Ext u w')) (hV : u = V.drew) (h : Hid (V.heap[g]? = some (.cells #[x0, x1, x2, x3, x4, x5, x6, x7, x8, x9, x10, x11] t (0, 0)))) :
    w'.cell? ⟨g, 1, none⟩ = some x1 ∧ w'.cell? ⟨g, 2, none⟩ = some x2 ∧ w'.cell? ⟨g, 3, none⟩ = some x3 ∧ w'.cell? ⟨g, 4, none⟩ = some x4 ∧ w'.cell? ⟨g, 5, none⟩ = some x5 ∧ w'.cell? ⟨g, 6, none⟩ = some x6 := by
  subst hV
  have h2 := (k.out.block g (Array.getElem?_eq_some_iff.1 h.out).1).trans h.out
  exact ⟨cell_of_row w' g 1 _ _ _ h2, cell_of_row w' g 2 _ _ _ h2, cell_of_row w' g 3 _ _ _ h2, cell_of_row w' g 4 _ _ _ h2, cell_of_row w' g 5 _ _ _ h2, cell_of_row w' g 6 _ _ _ h2⟩
theorem keep_two2 {u w' : World} {g : Nat} {x0 x1 x2 x3 x4 x5 x6 x7 x8 x9 x10 x11 : Value} {t : TypeId} {G : Nat → Prop} (k : Hid (Mod G u w')) (hg : Hid (¬ G g)) (h : Hid (u.heap[g]? = some (.cells #[x0, x1, x2, x3, x4, x5, x6, x7, x8, x9, x10, x11] t (0, 0)))) :
    w'.cell? ⟨g, 2, none⟩ = some x2 ∧ w'.cell? ⟨g, 3, none⟩ = some x3 := by
  have h2 := heap_mod h.out k.out hg.out
  exact ⟨cell_of_row w' g 2 _ _ _ h2, cell_of_row w' g 3 _ _ _ h2⟩
theorem firstS_in (g p : Int) : -1 ≤ firstS g p ∧ firstS g p ≤ 156 := by
  have h1 := beg_le g
  have h2 := wid_le g
  by_cases hh : 0 ≤ p ∧ p < plc g
  · rw [firstS_yes hh]
    have hr := plc_some (r := g) (by omega)
    rcases region_cases hr with rfl | rfl | rfl | rfl | rfl <;> simp [beg, plc, wid] at hh ⊢ <;> omega
  · rw [firstS_no hh]; omega
theorem off_piece {F G : Nat → Prop} {g o o' : Nat} (hF : ∀ i, F i → G i) (h : Off G (some ⟨g, o, none⟩)) : Off F (some ⟨g, o', none⟩) := fun p hp hh => by
  injection hp with hp
  subst hp
  exact h _ rfl (hF _ hh)
end Go.Proofs.YtlikhmhomkiadaaDoor

namespace Go.Proofs.YtlikhmhomkiadaaDoor
set_option maxRecDepth 100000
open Go Go.RowKit
/-- A disk that is up, and has power for some writes. -/
structure Ready (m : DM) (j : Nat) : Prop where
  up : m.up = true
  size : m.size = 156
  power : m.power = -1 ∨ (j : Int) ≤ m.power
theorem Ready.less {m : DM} {j k : Nat} (h : Ready m j) (hk : k ≤ j) : Ready m k := ⟨h.up, h.size, h.power.imp id fun hp => by omega⟩
theorem Ready.write {m : DM} {j : Nat} (h : Ready m (j + 1)) {s : Int} (h0 : 0 ≤ s) (h1 : s < 156) {b : List Nat} (hb : b.length = 64) : m.write s b = (0, { m with power := lessP m.power, waits := m.waits ++ [(s.toNat, b)] }) ∧ Ready (m.write s b).2 j := by
  have hh : m.has s = true := DM.has_iff.2 ⟨h0, by rw [h.size]; exact h1⟩
  have hp0 : m.power ≠ 0 := by rcases h.power with h | h <;> omega
  have e : m.write s b = (0, { m with power := lessP m.power, waits := m.waits ++ [(s.toNat, b)] }) := by
    unfold DM.write
    rw [if_neg (by rw [h.up]; simp), if_neg (by rw [hh, hb]; simp), if_neg hp0]
  refine ⟨e, ?_⟩
  rw [e]
  refine ⟨h.up, h.size, ?_⟩
  show lessP m.power = -1 ∨ _ ≤ lessP m.power
  unfold lessP
  rcases h.power with hp | hp
  · left; rw [hp]; decide
  · right; rw [if_pos (by omega)]; omega
theorem Ready.flush {m : DM} {j : Nat} (h : Ready m (j + 1)) : m.flush = (0, { ({ m with power := lessP m.power } : DM).comes m.waits with waits := [] }) := by
  have hp0 : m.power ≠ 0 := by rcases h.power with h | h <;> omega
  unfold DM.flush
  rw [if_neg (by rw [h.up]; simp), if_neg hp0]
theorem Ready.puts {m : DM} {S : Int} {L : List Nat} {W j : Nat} (h : Ready m (j + W)) (h0 : 0 ≤ S) (h1 : S + W ≤ 156) (hl : L.length = 64 * W) : ∀ k, k ≤ W → Ready (m.puts S L k) (j + W - k) := by
  intro k
  induction k with
  | zero => intro _; exact h
  | succ k ih =>
    intro hk
    have hr := ih (by omega)
    rw [show j + W - k = (j + W - (k + 1)) + 1 by omega] at hr
    exact (hr.write (s := S + (k : Int)) (by omega) (by omega) (b := (L.drop (64 * k)).take 64) (by rw [List.length_take, List.length_drop]; omega)).2

/-- What put leaves: the frame's sectors, written and flushed. -/
def DM.put (m : DM) (s : Int) (L : List Nat) (W : Nat) : DM := (m.puts s L W).flush.2

theorem first_wid {g p : Int} (hh : 0 ≤ p ∧ p < plc g) : 0 ≤ firstS g p ∧ firstS g p + wid g ≤ 156 := by
  rw [firstS_yes hh]
  have hr := plc_some (r := g) (by omega)
  rcases region_cases hr with rfl | rfl | rfl | rfl | rfl <;> simp [beg, plc, wid] at hh ⊢ <;> omega
theorem keep_tag {u V w' : World} {g : Nat} {x0 x1 x2 x3 x4 : Value} {t : TypeId} (k : Hid (Ext u w')) (hV : u = V.drew) (h : Hid (V.heap[g]? = some (.cells #[x0, x1, x2, x3, x4] t (0, 0)))) :
    w'.cell? ⟨g, 0, none⟩ = some x0 ∧ w'.cell? ⟨g, 1, none⟩ = some x1 ∧ w'.cell? ⟨g, 2, none⟩ = some x2 ∧ w'.cell? ⟨g, 3, none⟩ = some x3 ∧ w'.cell? ⟨g, 4, none⟩ = some x4 := by
  subst hV
  have h2 := (k.out.block g (Array.getElem?_eq_some_iff.1 h.out).1).trans h.out
  exact ⟨cell_of_row w' g 0 _ _ _ h2, cell_of_row w' g 1 _ _ _ h2, cell_of_row w' g 2 _ _ _ h2, cell_of_row w' g 3 _ _ _ h2, cell_of_row w' g 4 _ _ _ h2⟩
theorem keep_tag2 {u w' : World} {g : Nat} {x0 x1 x2 x3 x4 : Value} {t : TypeId} {G : Nat → Prop} (k : Hid (Mod G u w')) (hg : Hid (¬ G g)) (h : Hid (u.heap[g]? = some (.cells #[x0, x1, x2, x3, x4] t (0, 0)))) :
    w'.cell? ⟨g, 1, none⟩ = some x1 ∧ w'.cell? ⟨g, 2, none⟩ = some x2 := by
  have h2 := heap_mod h.out k.out hg.out
  exact ⟨cell_of_row w' g 1 _ _ _ h2, cell_of_row w' g 2 _ _ _ h2⟩
end Go.Proofs.YtlikhmhomkiadaaDoor

namespace Go.Proofs.YtlikhmhomkiadaaDoor
set_option maxRecDepth 100000
open Go Go.RowKit

theorem at_new {w : World} {d : Nat} {F : Nat → Prop} {m : DM} (h : PDisk w d F m) (s : Int) : (∀ b ∈ (m.at_ s).1, b < 256) ∧ (m.at_ s).1.length ≤ 64 := by
  obtain ⟨g, pv, hp, _, _⟩ := h
  exact ⟨sect_lt (at_sect hp.ok s), sect_len (at_sect hp.ok s)⟩
theorem means_new {w : World} {d : Nat} {F : Nat → Prop} {m : DM} (h : PDisk w d F m) (s : Int) : (∀ b ∈ (m.means s).1, b < 256) ∧ (m.means s).1.length ≤ 64 := by
  obtain ⟨g, pv, hp, _, _⟩ := h
  exact ⟨sect_lt (means_sect hp.ok s), sect_len (means_sect hp.ok s)⟩

/-- What the observers gather, sector by sector: a row of the call's own. -/
structure Gath (w0 w : World) (v : Value) (l : List Nat) (k : Nat) : Prop where
  own : w.ownsRow w0.heap.size 5 1 v l.length (vb l)
  lt : ∀ b ∈ l, b < 256
  few : l.length ≤ 64 * k
  ext : Ext w0 w
theorem Gath.start (w : World) : Gath w w (.slice none 0 0) [] 0 := ⟨World.ownsRow_nil _ _ _ _, fun b hb => (by cases hb), by simp, Ext.refl w⟩
theorem Gath.more {w0 w w' : World} {v : Value} {l : List Nat} {k : Nat} (h : Gath w0 w v l k) (hx : Ext w w') : Gath w0 w' v l k := ⟨own_ext h.own hx, h.lt, h.few, h.ext.trans hx⟩
theorem Gath.form {w0 w : World} {v : Value} {l : List Nat} {k : Nat} (h : Gath w0 w v l k) : ∃ A c, v = .slice A l.length c ∧ By w A l.length c l := by
  obtain ⟨A, c, rfl, _, _⟩ := own_form h.own
  exact ⟨A, c, rfl, Bs.of_own h.own h.lt⟩
theorem Gath.app {w0 w w' : World} {v v' : Value} {l l2 : List Nat} {k : Nat} (h : Gath w0 w v l k) (hg : w.grownBy w' v.ownBlock) (ho : w'.ownsRow w0.heap.size 5 1 v' (l.length + l2.length) (vb l ++ vb l2)) (hl : ∀ b ∈ l2, b < 256) (hn : l2.length ≤ 64) : Gath w0 w' v' (l ++ l2) (k + 1) := by
  refine ⟨by rw [List.length_append, vb_append]; exact ho, fun b hb => (List.mem_append.1 hb).elim (h.lt b) (hl b), ?_, Below.grown h.ext hg (Ext.size h.ext) (fun g hg' => (h.own.lt g hg').1)⟩
  have := h.few
  rw [List.length_append]
  omega

/-- A hurt place is detectable: one of its sectors is lost, or its bytes are bad there. -/
def DM.badB (m : DM) (r g p : Int) : Bool := m.lostB (firstS g p) (wid g) || decide (stM (m.restL (firstS g p) (wid g)) r g p = 2)
end Go.Proofs.YtlikhmhomkiadaaDoor

namespace Go.Proofs.YtlikhmhomkiadaaDoor
set_option maxRecDepth 100000

theorem puts_ok {m : DM} (h : m.Ok) {S : Int} {L : List Nat} (hl : ∀ x ∈ L, x < 256) (k : Nat) : (m.puts S L k).Ok := by
  induction k with
  | zero => exact h
  | succ k ih => exact DM.write_ok ih _ fun x hx => hl x (List.mem_of_mem_drop (List.mem_of_mem_take hx))
theorem write_size (m : DM) (s : Int) (b : List Nat) : (m.write s b).2.size = m.size := by
  unfold DM.write
  split
  · rfl
  · split
    · rfl
    · split <;> rfl
theorem puts_size (m : DM) (S : Int) (L : List Nat) (k : Nat) : (m.puts S L k).size = m.size := by
  induction k with
  | zero => rfl
  | succ k ih => exact (write_size _ _ _).trans ih
theorem flush_size (m : DM) : m.flush.2.size = m.size := by
  unfold DM.flush
  split
  · rfl
  · split
    · rfl
    · exact DM.comes_size _ _
theorem act_size (m : DM) (kind : Nat) (sec num : Int) (bytes : List Nat) (keep : List Bool) : (m.act kind sec num bytes keep).2.size = m.size := by
  unfold DM.act
  split
  · exact flush_size m
  · unfold DM.crash; split
    · rfl
    · exact DM.comes_size _ _
  · unfold DM.start; split <;> rfl
  · unfold DM.flip; split
    · rfl
    · simp [DM.size]
  · unfold DM.lose; split <;> rfl
  · unfold DM.stray; split
    · rfl
    · simp [DM.size]
  · unfold DM.setPower; split
    · rfl
    · split <;> rfl
  · exact write_size _ _ _
theorem act6_ok {m : DM} (h : m.Ok) {x : Act6} (hb : ∀ y ∈ x.bl, y < 256) (ha : ∀ y ∈ x.act.bl, y < 256) : (m.act6 x).Ok := by
  unfold DM.act6
  split
  · split
    · exact puts_ok h (fun y hy => sealL_lt hb y hy) _
    · exact h
  · exact DM.act_ok h _ _ _ ha _
theorem act6_size (m : DM) (x : Act6) : (m.act6 x).size = m.size := by
  unfold DM.act6
  split
  · split
    · exact puts_size _ _ _ _
    · rfl
  · exact act_size _ _ _ _ _ _

/-- A disk without faults. -/
structure NInv (m : DM) : Prop where
  ok : m.Ok
  same : ∀ i, m.rest.getD i [] = m.meant.getD i []
  none_ : ∀ i, m.lost.getD i false = false
theorem NInv.of_eq {m m' : DM} (h : NInv m) (hok : m'.Ok) (h1 : m'.rest = m.rest) (h2 : m'.meant = m.meant) (h3 : m'.lost = m.lost) : NInv m' :=
  ⟨hok, fun i => by rw [h1, h2]; exact h.same i, fun i => by rw [h3]; exact h.none_ i⟩
theorem NInv.comes {m : DM} (h : NInv m) {l : List (Nat × List Nat)} (hl : ∀ x ∈ l, x ∈ m.waits) : NInv (m.comes l) := by
  have g := comes_get l m h.ok fun x hx => (h.ok.waits x (hl x hx)).1
  refine ⟨DM.comes_ok l h.ok fun x hx => (h.ok.waits x (hl x hx)).2, fun i => ?_, fun i => ?_⟩
  · rw [(g i).1, (g i).2.1, h.same i]
  · rw [(g i).2.2, h.none_ i]
    split <;> rfl
theorem NInv.write {m : DM} (h : NInv m) (s : Int) {b : List Nat} (hb : ∀ x ∈ b, x < 256) : NInv (m.write s b).2 := by
  have hok := DM.write_ok h.ok s hb
  revert hok
  unfold DM.write
  split
  · intro _; exact h
  · split
    · intro _; exact h
    · split
      · intro hok; exact h.of_eq hok rfl rfl rfl
      · intro hok; exact h.of_eq hok rfl rfl rfl
theorem NInv.act {m : DM} (h : NInv m) (kind : Nat) (sec num : Int) {bytes : List Nat} (hb : ∀ x ∈ bytes, x < 256) (keep : List Bool) (hk : ¬ (3 ≤ kind % 9 ∧ kind % 9 ≤ 5)) : NInv (m.act kind sec num bytes keep).2 := by
  have hok := DM.act_ok h.ok kind sec num hb keep
  have h9 : kind % 9 < 9 := Nat.mod_lt _ (by omega)
  have hcase : kind % 9 = 0 ∨ kind % 9 = 1 ∨ kind % 9 = 2 ∨ kind % 9 = 6 ∨ kind % 9 = 7 ∨ kind % 9 = 8 := by omega
  unfold DM.act at hok ⊢
  rcases hcase with e | e | e | e | e | e
  · simp only [e] at hok ⊢
    revert hok
    unfold DM.flush
    split
    · intro _; exact h
    · split
      · intro hok; exact h.of_eq hok rfl rfl rfl
      · intro hok
        have h2 : NInv { m with power := lessP m.power } := h.of_eq ⟨h.ok.meant, h.ok.lost, h.ok.rests, h.ok.means, h.ok.waits, lessP_le h.ok.power⟩ rfl rfl rfl
        exact (h2.comes (l := m.waits) fun x hx => hx).of_eq hok rfl rfl rfl
  · simp only [e] at hok ⊢
    revert hok
    unfold DM.crash
    split
    · intro _; exact h
    · intro hok; exact (h.comes (l := kept m.waits keep) fun x hx => kept_mem hx).of_eq hok rfl rfl rfl
  · simp only [e] at hok ⊢
    revert hok
    unfold DM.start
    split
    · intro _; exact h
    · intro hok; exact h.of_eq hok rfl rfl rfl
  · simp only [e] at hok ⊢
    exact h.write sec (actB_lt hb)
  · simp only [e] at hok ⊢
    exact h.write sec (actB_lt hb)
  · simp only [e] at hok ⊢
    revert hok
    unfold DM.setPower
    split
    · intro _; exact h
    · split
      · intro _; exact h
      · intro hok; exact h.of_eq hok rfl rfl rfl
theorem NInv.puts {m : DM} (h : NInv m) {S : Int} {L : List Nat} (hl : ∀ x ∈ L, x < 256) (k : Nat) : NInv (m.puts S L k) := by
  induction k with
  | zero => exact h
  | succ k ih => exact ih.write _ fun x hx => hl x (List.mem_of_mem_drop (List.mem_of_mem_take hx))
theorem NInv.act6 {m : DM} (h : NInv m) {x : Act6} (hb : ∀ y ∈ x.bl, y < 256) (ha : ∀ y ∈ x.act.bl, y < 256) (hk : x.sl = true ∨ ¬ (3 ≤ x.act.kind % 9 ∧ x.act.kind % 9 ≤ 5)) : NInv (m.act6 x) := by
  unfold DM.act6
  split
  · split
    · exact h.puts (fun y hy => sealL_lt hb y hy) _
    · exact h
  · rename_i hs
    exact h.act _ _ _ ha _ (hk.resolve_left hs)
theorem NInv.hurt {m : DM} (h : NInv m) (s : Int) : m.hurt s = false := by
  unfold DM.hurt DM.at_ DM.means
  by_cases hh : m.has s = false
  · rw [if_pos hh, if_pos hh]; rfl
  · rw [if_neg hh, if_neg hh, h.none_, h.same]
    simp
theorem NInv.new (n : Nat) : NInv (DM.new n) := by
  refine ⟨DM.new_ok n, fun i => rfl, fun i => ?_⟩
  show (List.replicate n false).getD i false = false
  rw [List.getD_eq_getElem?_getD, List.getElem?_replicate]
  split <;> rfl

/-- Faults leave what is meant. -/
structure MInv (m : DM) (M : List (List Nat)) : Prop where
  ok : m.Ok
  size : m.size = 156
  meant : m.meant = M
theorem MInv.fault {m : DM} {M : List (List Nat)} (h : MInv m M) (kind : Nat) (sec num : Int) {bytes : List Nat} (hb : ∀ x ∈ bytes, x < 256) (keep : List Bool) (hk : 3 ≤ kind % 9 ∧ kind % 9 ≤ 5) : MInv (m.act kind sec num bytes keep).2 M := by
  refine ⟨DM.act_ok h.ok kind sec num hb keep, (act_size _ _ _ _ _ _).trans h.size, ?_⟩
  have hcase : kind % 9 = 3 ∨ kind % 9 = 4 ∨ kind % 9 = 5 := by omega
  unfold DM.act
  rcases hcase with e | e | e
  · simp only [e]
    unfold DM.flip
    split
    · exact h.meant
    · exact h.meant
  · simp only [e]
    unfold DM.lose
    split
    · exact h.meant
    · exact h.meant
  · simp only [e]
    unfold DM.stray
    split
    · exact h.meant
    · exact h.meant
theorem MInv.means {m m' : DM} {M : List (List Nat)} (h : MInv m M) (h' : MInv m' M) (s : Int) : m.means s = m'.means s := by
  unfold DM.means DM.has
  rw [h.size, h'.size, h.meant, h'.meant]
theorem MInv.meantL {m m' : DM} {M : List (List Nat)} (h : MInv m M) (h' : MInv m' M) (a : Int) (n : Nat) : m.meantL a n = m'.meantL a n :=
  catS_congr fun s _ _ => by rw [h.means h' s]

/-- The pieces of a frame. -/
def pieceL (L : List Nat) (k : Nat) : List Nat := (L.drop (64 * k)).take 64
theorem puts_form {m : DM} {S : Int} {L : List Nat} {W : Nat} (h : Ready m (1 + W)) (h0 : 0 ≤ S) (h1 : S + W ≤ 156) (hl : L.length = 64 * W) : ∀ k, k ≤ W →
    (m.puts S L k).waits = m.waits ++ (List.range k).map (fun j => ((S + ((j : Nat) : Int)).toNat, pieceL L j)) ∧ (m.puts S L k).rest = m.rest ∧ (m.puts S L k).meant = m.meant ∧ (m.puts S L k).lost = m.lost := by
  intro k
  induction k with
  | zero => intro _; exact ⟨by simp [DM.puts], rfl, rfl, rfl⟩
  | succ k ih =>
    intro hk
    obtain ⟨i1, i2, i3, i4⟩ := ih (by omega)
    have hr := h.puts h0 h1 hl k (by omega)
    rw [show 1 + W - k = (W - k) + 1 by omega] at hr
    have e := (hr.write (s := S + (k : Int)) (by omega) (by omega) (b := (L.drop (64 * k)).take 64) (by rw [List.length_take, List.length_drop]; omega)).1
    show ((m.puts S L k).write (S + (k : Int)) ((L.drop (64 * k)).take 64)).2.waits = _ ∧ ((m.puts S L k).write (S + (k : Int)) ((L.drop (64 * k)).take 64)).2.rest = _ ∧ ((m.puts S L k).write (S + (k : Int)) ((L.drop (64 * k)).take 64)).2.meant = _ ∧ ((m.puts S L k).write (S + (k : Int)) ((L.drop (64 * k)).take 64)).2.lost = _
    rw [e]
    refine ⟨?_, i2, i3, i4⟩
    show (m.puts S L k).waits ++ _ = _
    rw [i1, List.range_succ, List.map_append, List.append_assoc]
    rfl
theorem lastW_pieces (l : List (Nat × List Nat)) {S : Int} (h0 : 0 ≤ S) (f : Nat → List Nat) : ∀ k i, i < k → lastW (l ++ (List.range k).map (fun j => ((S + ((j : Nat) : Int)).toNat, f j))) (S + (i : Int)).toNat = some (f i) := by
  intro k
  induction k with
  | zero => intro i hi; omega
  | succ k ih =>
    intro i hi
    rw [List.range_succ, List.map_append, ← List.append_assoc, List.map_cons, List.map_nil, lastW_snoc]
    by_cases hik : i = k
    · subst hik
      rw [if_pos rfl]
    · rw [if_neg (by show ¬ (S + (k : Int)).toNat = _; omega)]
      exact ih i (by omega)
/-- What put leaves at the frame's sectors. -/
structure Put (m : DM) (S : Int) (L : List Nat) (W : Nat) : Prop where
  ok : m.Ok
  size : m.size = 156
  waits : m.waits = []
  at_ : ∀ i, i < W → m.at_ (S + ((i : Nat) : Int)) = (pieceL L i, false, 0) ∧ m.means (S + ((i : Nat) : Int)) = (pieceL L i, 0)
theorem put_put {m : DM} {S : Int} {L : List Nat} {W : Nat} (hok : m.Ok) (h : Ready m (1 + W)) (h0 : 0 ≤ S) (h1 : S + W ≤ 156) (hl : L.length = 64 * W) (hb : ∀ x ∈ L, x < 256) : Put (m.put S L W) S L W := by
  have hsz : (m.put S L W).size = 156 := by
    unfold DM.put
    rw [flush_size, puts_size, h.size]
  have hokp := puts_ok hok hb (S := S) W
  obtain ⟨f1, f2, f3, f4⟩ := puts_form h h0 h1 hl W (Nat.le_refl _)
  have hr := h.puts h0 h1 hl W (Nat.le_refl _)
  rw [show 1 + W - W = 0 + 1 by omega] at hr
  have e := hr.flush
  have hok2 : ({ (m.puts S L W) with power := lessP (m.puts S L W).power } : DM).Ok := ⟨hokp.meant, hokp.lost, hokp.rests, hokp.means, hokp.waits, lessP_le hokp.power⟩
  have g := comes_get (m.puts S L W).waits { (m.puts S L W) with power := lessP (m.puts S L W).power } hok2 fun x hx => (hokp.waits x hx).1
  refine ⟨DM.flush_ok hokp, hsz, by unfold DM.put; rw [e], fun i hi => ?_⟩
  have hw : lastW (m.puts S L W).waits (S + (i : Int)).toNat = some (pieceL L i) := by
    rw [f1]
    exact lastW_pieces m.waits h0 (pieceL L) W i hi
  have hg := g (S + (i : Int)).toNat
  rw [hw] at hg
  have hhas : (m.put S L W).has (S + (i : Int)) = true := DM.has_iff.2 ⟨by omega, by rw [hsz]; omega⟩
  have er : (m.put S L W).rest = (({ (m.puts S L W) with power := lessP (m.puts S L W).power } : DM).comes (m.puts S L W).waits).rest := by unfold DM.put; rw [e]
  have em : (m.put S L W).meant = (({ (m.puts S L W) with power := lessP (m.puts S L W).power } : DM).comes (m.puts S L W).waits).meant := by unfold DM.put; rw [e]
  have el : (m.put S L W).lost = (({ (m.puts S L W) with power := lessP (m.puts S L W).power } : DM).comes (m.puts S L W).waits).lost := by unfold DM.put; rw [e]
  unfold DM.at_ DM.means
  have hlo : (m.put S L W).lost.getD (S + (i : Int)).toNat false = false := by rw [el, hg.2.2]; rfl
  have hh : ¬ (m.put S L W).has (S + (i : Int)) = false := by rw [hhas]; simp
  rw [if_neg hh, if_neg (by rw [hlo]; simp), if_neg hh, er, em, hg.1, hg.2.1]
  exact ⟨rfl, rfl⟩
theorem catS_pieces {f : Int → List Nat} {S : Int} {L : List Nat} : ∀ k, (∀ i, i < k → f (S + ((i : Nat) : Int)) = pieceL L i) → catS f S k = L.take (64 * k) := by
  intro k
  induction k with
  | zero => intro _; simp [catS]
  | succ k ih =>
    intro h
    rw [catS_succ, ih fun i hi => h i (by omega), h k (by omega), show 64 * (k + 1) = 64 * k + 64 by omega, List.take_add]
    rfl
theorem Put.meantL {m : DM} {S : Int} {L : List Nat} {W : Nat} (h : Put m S L W) (hl : L.length = 64 * W) : m.meantL S W = L := by
  unfold DM.meantL
  rw [catS_pieces W fun i hi => by rw [(h.at_ i hi).2], ← hl, List.take_length]
theorem Put.unhurt {m : DM} {S : Int} {L : List Nat} {W : Nat} (h : Put m S L W) : anyIn m.hurt S W = false := by
  cases hh : anyIn m.hurt S W with
  | false => rfl
  | true =>
    obtain ⟨s, h1, h2, h3⟩ := anyIn_iff.1 hh
    have := h.at_ (s - S).toNat (by omega)
    rw [show S + (((s - S).toNat : Nat) : Int) = s by omega] at this
    unfold DM.hurt at h1
    rw [this.1, this.2] at h1
    simp at h1
end Go.Proofs.YtlikhmhomkiadaaDoor

namespace Go.Proofs.YtlikhmhomkiadaaDoor
set_option maxRecDepth 100000
open Go Go.RowKit

/-- The tag that a frame's Mine tells, as a value. -/
def tagV (l : List Nat) (r g p : Int) : Value := .agg #[.int .i64 (mfl l r g p 0), .int .i64 (mfl l r g p 1), .int .i64 (mfl l r g p 2), .int .i64 (mfl l r g p 3), .int .i64 (mfl l r g p 4)]

end Go.Proofs.YtlikhmhomkiadaaDoor

namespace Go.Proofs.YtlikhmhomkiadaaDoor
set_option maxRecDepth 100000
open Go Go.RowKit

def DM.downed (m : DM) : DM := if m.up = true then m else (m.crash []).2
def DM.raised (m : DM) : DM := (m.start.2.setPower 1000).2
theorem downed_ok {m : DM} (h : m.Ok) : m.downed.Ok := by
  unfold DM.downed
  split
  · exact h
  · exact DM.crash_ok h []
theorem crash_size (m : DM) (k : List Bool) : (m.crash k).2.size = m.size := act_size m 1 0 0 [] k
theorem start_size (m : DM) : m.start.2.size = m.size := act_size m 2 0 0 [] []
theorem setPower_size (m : DM) (n : Int) : (m.setPower n).2.size = m.size := act_size m 8 0 n [] []
theorem heal_ready {m : DM} (hok : m.Ok) (hs : m.size = 156) {N : Nat} (hw : m.waits.length ≤ N) : m.downed.raised.Ok ∧ Ready m.downed.raised 3 ∧ m.downed.raised.waits.length ≤ N := by
  have hd : m.downed.size = 156 ∧ m.downed.waits.length ≤ N ∧ (m.downed.up = true ∨ m.downed.down = true) := by
    unfold DM.downed
    split
    · rename_i hu
      exact ⟨hs, hw, .inl hu⟩
    · refine ⟨(crash_size _ _).trans hs, ?_, ?_⟩
      · unfold DM.crash; split
        · exact hw
        · simp
      · unfold DM.crash; split
        · rename_i hdn; exact .inr hdn
        · exact .inr rfl
  have hok2 := downed_ok hok
  generalize m.downed = p at *
  obtain ⟨h1, h2, h3⟩ := hd
  have hst : p.start.2.size = 156 ∧ p.start.2.waits.length ≤ N ∧ p.start.2.up = true := by
    refine ⟨(start_size _).trans h1, ?_, ?_⟩
    · unfold DM.start; split <;> exact h2
    · unfold DM.start
      split
      · rename_i hdn
        exact h3.resolve_right (by rw [hdn]; simp)
      · rfl
  have hok3 := DM.start_ok hok2
  unfold DM.raised
  generalize p.start.2 = q at *
  obtain ⟨g1, g2, g3⟩ := hst
  refine ⟨DM.setPower_ok hok3 1000, ?_, ?_⟩
  · have e : q.setPower 1000 = (0, { q with power := 1000 }) := by
      unfold DM.setPower
      rw [if_neg (by rw [g3]; simp), if_neg (by omega)]
    rw [e]
    exact ⟨g3, g1, .inr (by show (3 : Int) ≤ 1000; omega)⟩
  · unfold DM.setPower
    split
    · exact g2
    · split <;> exact g2
/-- What Mine tells of a frame at its own place. -/
theorem seal_mine {a b c t e : Int} {s : Int} {body : List Nat} (h : sealE a b c t e body.length s = 0) : stM (sealL a b c t e body s) a b c = 1 ∧ tagV (sealL a b c t e body s) a b c = .agg #[.int .i64 a, .int .i64 b, .int .i64 c, .int .i64 t, .int .i64 e] ∧ mbl (sealL a b c t e body s) a b c = body ∧
    ((mfl (sealL a b c t e body s) a b c 0 : Nat) : Int) = a ∧ ((mfl (sealL a b c t e body s) a b c 1 : Nat) : Int) = b ∧ ((mfl (sealL a b c t e body s) a b c 2 : Nat) : Int) = c ∧ ((mfl (sealL a b c t e body s) a b c 3 : Nat) : Int) = t ∧ ((mfl (sealL a b c t e body s) a b c 4 : Nat) : Int) = e := by
  obtain ⟨hg, hb, q0, q1, q2, q3, q4⟩ := sealL_good h
  obtain ⟨e1, e2, e3⟩ := mine_yes hg ((mineB_iff hg).2 ⟨q0, q1, q2⟩)
  have f0 := e2 0
  have f1 := e2 1
  have f2 := e2 2
  have f3 := e2 3
  have f4 := e2 4
  refine ⟨e1, ?_, e3.trans hb, by rw [f0]; exact q0, by rw [f1]; exact q1, by rw [f2]; exact q2, by rw [f3]; exact q3, by rw [f4]; exact q4⟩
  unfold tagV
  rw [f0, f1, f2, f3, f4, q0, q1, q2, q3, q4]
theorem may_place {a b c t e : Int} (hm : mayB a b c t e = true) : placeG 156 a b c = 0 := by
  obtain ⟨h1, h2, h3, h4, h5, h6, _⟩ := mayB_iff.1 hm
  have hk : knownG 156 a = 0 := by
    unfold knownG
    rw [if_neg (by omega), if_neg (by omega)]
  have hf := first_wid ⟨h5, h6⟩
  unfold placeG
  rw [hk, if_neg (by simp), if_neg (by omega)]
/-- All of a frame that may be: it can be written, how long it is, what it tells. -/
theorem may_all {a b c t e : Int} {n : Nat} {body : List Nat} (hm : mayB a b c t e = true) (hn : n ≤ 43) (hb : body.length = n) : sealE a b c t e body.length (wid b : Nat) = 0 ∧ (sealL a b c t e body (wid b : Nat)).length = 64 * wid b ∧ 1 ≤ wid b ∧ 0 ≤ firstS b c ∧ firstS b c + wid b ≤ 156 := by
  obtain ⟨h1, h2, h3, h4, h5, h6, _⟩ := mayB_iff.1 hm
  have hw1 := wid_pos (r := b) ⟨h3, h4⟩
  have hw2 := wid_le b
  have hE : sealE a b c t e body.length (wid b : Nat) = 0 := sealE_yes (by rcases (by omega : wid b = 1 ∨ wid b = 2) with e | e <;> rw [e] <;> decide) hm (by rw [hb]; rcases (by omega : wid b = 1 ∨ wid b = 2) with e | e <;> rw [e] <;> (simp [roomN]; omega))
  have hl := (sealL_len hE).1
  rw [Int.toNat_natCast] at hl
  exact ⟨hE, hl, hw1, (first_wid ⟨h5, h6⟩).1, (first_wid ⟨h5, h6⟩).2⟩
end Go.Proofs.YtlikhmhomkiadaaDoor
