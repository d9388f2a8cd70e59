/-
  The contract of hurtSectors, as an iterator: those that are hurt come in order.
-/
import Derived.Test.YtgcinagkbdcgiaaGreatDoorR00
import Derived.Test.YtgcinagkbdcgiaaGreatDoorR01
import Derived.Test.YtgcinagkbdcgiaaGreatDoorR04
import Derived.Test.YtgcinagkbdcgiaaGreatDoorR05
import Derived.Test.YtgcinagkbdcgiaaGreatDoorR06
import Derived.Test.YtgcinagkbdcgiaaGreatDoorR07
import Derived.Test.YtgcinagkbdcgiaaGreatDoorR10
import Derived.Test.YtgcinagkbdcgiaaGreatDoorR11
import Derived.Test.YtgcinagkbdcgiaaGreatDoorR12
import Derived.RangeFuncNested
import Derived.RangeFuncBound
import Derived.RangeFuncCalls
import Derived.RangeFuncLeaves
import Derived.Shelf.Abstract
import Derived.Shelf.RegionOpen
import Derived.WalkKit
import Derived.OwnWalkIn
import Derived.TacticsInMore
import Derived.LoopNIn
import Derived.LoopIn
import Derived.RangeFuncBox
import Derived.Maps.AppendAt
import Derived.Deep.RegionHeld3
import Derived.Deep.MidRow
import Derived.Deep.QuietTactic
namespace Go.Proofs.YtgcinagkbdcgiaaGreatDoor
set_option maxRecDepth 100000
section
open Go Go.RowKit Go.Shelf
attribute [local go_sem] Oper.semAt_some
theorem grown_of_ext {w w' : World} (h : Ext w w') : w.grownBy w' none := ⟨h.os, h.tape, h.output, h.size, fun k hk _ => h.block k hk⟩
theorem mod_cell {G : Nat → Prop} {w w' : World} (k : Mod G w w') {g i : Nat} {v : Value} (hg : ¬ G g) (h : w.cell? ⟨g, i, none⟩ = some v) : w'.cell? ⟨g, i, none⟩ = some v :=
  (World.cell?_of_block (a := ⟨g, i, none⟩) (k.block g (World.block_lt_of_cell? w _ h) hg)).trans h
theorem ext_of_cell {w w' : World} {g i : Nat} {v : Value} (h : Ext w w') (hc : w.cell? ⟨g, i, none⟩ = some v) : w'.cell? ⟨g, i, none⟩ = some v := (Below.cell h (p := ⟨g, i, none⟩) (World.block_lt_of_cell? w _ hc)).trans hc
theorem mod_put {G : Nat → Prop} {w W : World} (l : Nat) (o o' : Obj) (hG : ∀ k, w.heap.size ≤ k → G k) (hl : w.heap.size ≤ l) (_ : W.heap[l]? = some o) : Mod G W (W.putObj l o') :=
  (Mod.refl G W).grown (grownBy_putObj' W l o') (fun k e => by cases e; exact .inl (hG l hl))
def HurtsOn (G : Nat → Prop) (W0 : World) (p : Option Addr) (a : Int) (k : Nat) (h : Int → Bool) : Prop :=
  ∀ x : Int, a ≤ x → x < a + k → ∀ W, Mod G W0 W → Calls Tryz.prog 200 #[.pointer p, .int .i64 x] W fun e W' => e = .returned (.bool (h x)) ∧ Ext W W'
theorem HurtsOn.of {G : Nat → Prop} {W0 : World} {d : Nat} {F : Nat → Prop} {m : DM} (hd : PDisk W0 d F m) (hG : ∀ i, F i → ¬ G i) (a : Int) (k : Nat) : HurtsOn G W0 (some ⟨d, 0, none⟩) a k m.hurt :=
  fun x _ _ _ hm => isHurt_of (hd.mod hm hG) x
theorem HurtsOn.none (G : Nat → Prop) (W0 : World) (p : Option Addr) (a : Int) (h : Int → Bool) : HurtsOn G W0 p a 0 h := fun x h1 h2 => by omega
end
section
open Go Go.RowKit Go.Shelf
attribute [local go_sem] Oper.semAt_some
end
section
open Go Go.RowKit Go.Shelf
attribute [local go_sem] Oper.semAt_some
end
section
open Go Go.RowKit
def regCells : List Value := [.int .i64 0, .int .i64 0, .int .i64 2, .int .i64 1, .int .i64 2, .int .i64 1, .int .i64 24, .int .i64 1, .int .i64 48, .int .i64 2, .int .i64 16, .int .i64 2]
theorem LaidT.range {w : World} (h : LaidT w) : w.rangeAt 2 0 regCells := by
  intro j v hv
  have hj : j < 12 := (List.getElem?_eq_some_iff.1 hv).1
  have hj' : j = 0 ∨ j = 1 ∨ j = 2 ∨ j = 3 ∨ j = 4 ∨ j = 5 ∨ j = 6 ∨ j = 7 ∨ j = 8 ∨ j = 9 ∨ j = 10 ∨ j = 11 := by omega
  rw [Nat.zero_add, ← hv]
  rcases hj' with rfl | rfl | rfl | rfl | rfl | rfl | rfl | rfl | rfl | rfl | rfl | rfl
  · exact (h 0 (by omega)).1
  · exact (h 0 (by omega)).2
  · exact (h 1 (by omega)).1
  · exact (h 1 (by omega)).2
  · exact (h 2 (by omega)).1
  · exact (h 2 (by omega)).2
  · exact (h 3 (by omega)).1
  · exact (h 3 (by omega)).2
  · exact (h 4 (by omega)).1
  · exact (h 4 (by omega)).2
  · exact (h 5 (by omega)).1
  · exact (h 5 (by omega)).2
end
section
open Go Go.RowKit Go.Shelf
attribute [local go_sem] Oper.semAt_some
def DM.seenB (m : DM) (r : Int) : Bool := (hurtsIn m.hurt 0 156).all fun s => m.badB r (wReg s) (wPlc s)
end
section
def SlD (m : DM) (r : Int) (q : Nat) (j : Int) (o : Option (Int × Int × Ent)) : Prop := SlH j o (m.recM r (q : Int)) (m.copM r ((2 * q : Nat) : Int)) (m.copM r ((2 * q + 1 : Nat) : Int))
def slT (q t : Nat) : Prop := t = sR q ∨ t = sF (2 * q) ∨ t = sF (2 * q) + 1 ∨ t = sF (2 * q + 1) ∨ t = sF (2 * q + 1) + 1
theorem SlD.of_same {m m' : DM} {pw pw' : Int} (h : CD m pw) (h' : CD m' pw') {q : Nat} (hq : q < 24) {r j : Int} {o : Option (Int × Int × Ent)} (ht : ∀ t, slT q t → m'.hold t = m.hold t) (hs : SlD m r q j o) : SlD m' r q j o := by
  obtain ⟨a, b, c⟩ := slot_same h h' hq r ht
  unfold SlD
  rw [a, b, c]
  exact hs
theorem mayW3 {r inc i : Int} {q : Nat} (hr : 0 ≤ r ∧ r ≤ 6) (hi : 0 ≤ i ∧ i ≤ 1099511627776) (hc : 1 ≤ inc ∧ inc ≤ 1099511627776) (hq : q < 24) : mayB r 3 (q : Int) i inc = true := by
  unfold mayB
  rw [decide_eq_true_iff]
  simp [plc]
  omega
theorem mayW4 {r inc i : Int} {p : Nat} (hr : 0 ≤ r ∧ r ≤ 6) (hi : 0 ≤ i ∧ i ≤ 1099511627776) (hc : 1 ≤ inc ∧ inc ≤ 1099511627776) (hp : p < 48) : mayB r 4 (p : Int) i inc = true := by
  unfold mayB
  rw [decide_eq_true_iff]
  simp [plc]
  omega
theorem nextW_two (m : DM) (r i : Int) : m.nextW r i = 0 ∨ m.nextW r i = 1 := (nextL_two _ _ _ _).1
theorem nextW_of {m : DM} {r i : Int} {q : Nat} (hq : placeW i = (q : Int)) : m.nextW r i = nextL (m.recM r (q : Int)) (m.copM r ((2 * q : Nat) : Int)) (m.copM r ((2 * q + 1 : Nat) : Int)) i := by
  unfold DM.nextW
  rw [hq, show 2 * (q : Int) = ((2 * q : Nat) : Int) from by omega, show ((2 * q : Nat) : Int) + 1 = ((2 * q + 1 : Nat) : Int) from by omega]
theorem SlD.put {m : DM} (h : CD m (-1)) {r inc i x y : Int} {e : Ent} {q : Nat} (hq : placeW i = (q : Int)) (hq24 : q < 24) {j : Int} {o : Option (Int × Int × Ent)} (hs : SlD m r q j o) (hr : 0 ≤ r ∧ r ≤ 6) (hi : 0 ≤ i ∧ i ≤ 1099511627776) (hc : 1 ≤ inc ∧ inc ≤ 1099511627776) (hb : balE x y = true) (he : enOk e = true)
    (hcon : o = none ∨ j < i ∨ (j = i ∧ ∀ a b c, o = some (a, b, c) → gtL x y a b)) :
    ∃ m', m.putW r inc i x y e = (0, m') ∧ CD m' (-1) ∧ (NInv m → NInv m') ∧ SlD m' r q i (some (x, y, e)) ∧ ∀ q', q' < 24 → q' ≠ q → ∀ t, slT q' t → m'.hold t = m.hold t := by
  have hk := nextW_two m r i
  have hkn := nextW_of (m := m) (r := r) hq
  obtain ⟨p, hp, hp48, hpc⟩ : ∃ p : Nat, 2 * (q : Int) + m.nextW r i = (p : Int) ∧ p < 48 ∧ ((p = 2 * q ∧ m.nextW r i = 0) ∨ (p = 2 * q + 1 ∧ m.nextW r i = 1)) := by
    rcases hk with hk | hk
    · exact ⟨2 * q, by omega, by omega, .inl ⟨rfl, hk⟩⟩
    · exact ⟨2 * q + 1, by omega, by omega, .inr ⟨rfl, hk⟩⟩
  have m3 := mayW3 (q := q) hr hi hc hq24
  have m4 := mayW4 (p := p) hr hi hc hp48
  have hrb : recB x y (m.nextW r i) = true := recB_iff.2 ⟨balE_iff.1 hb, hk⟩
  obtain ⟨s1, s2, sp⟩ := frmW_sects (x := x) (y := y) (e := e) m4 hb he
  have s3 := recW_sect (x := x) (y := y) m3 hrb
  obtain ⟨m', e1, c1, n1, g1⟩ := h.putK hq24 hp48 (k := m.nextW r i) (x := x) (y := y) (e := e) hp s1 s2 s3
  have hput : m.putW r inc i x y e = (0, m') := by unfold DM.putW; rw [hq]; exact e1
  refine ⟨m', hput, c1, n1, ?_, fun q' hq' hne t ht => ?_⟩
  · -- what is read then
    have hrec : m'.recM r (q : Int) = { st := 1, ix := i, bx := x, yb := y, wh := m.nextW r i } := by
      rw [c1.recM hq24, g1, if_pos rfl]
      exact recW_back m3 hb hk
    have hnew : m'.copM r (p : Int) = { st := 1, ix := i, bx := x, yb := y, e := e } := by
      rw [c1.copM hp48, g1, g1, if_neg (by unfold sF sR; omega), if_neg (by omega), if_pos rfl, if_neg (by unfold sF sR; omega), if_pos rfl, sp]
      exact frmW_back m4 hb he
    have hold : ∀ p', p' < 48 → p' ≠ p → m'.copM r (p' : Int) = m.copM r (p' : Int) := fun p' hp' hne => by
      rw [c1.copM hp', h.copM hp', g1, g1]
      rw [if_neg (by unfold sF sR; omega), if_neg (by unfold sF; omega), if_neg (by unfold sF; omega), if_neg (by unfold sF sR; omega), if_neg (by unfold sF; omega), if_neg (by unfold sF; omega)]
    have := SlH.put (i := i) (x := x) (y := y) (e := e) hs hcon
    rw [← hkn] at this
    unfold SlD
    rw [hrec]
    rcases hpc with ⟨rfl, hz⟩ | ⟨rfl, hz⟩
    · rw [hnew, hold (2 * q + 1) (by omega) (by omega)]
      rw [hz] at this ⊢
      simpa using this
    · rw [hnew, hold (2 * q) (by omega) (by omega)]
      rw [hz] at this ⊢
      simpa using this
  · have hf := putT_far (p := p) hq24 hq' hne (by omega) ht
    unfold putT at hf
    rw [g1 t, if_neg (fun e => hf (.inl e)), if_neg (fun e => hf (.inr (.inr e))), if_neg (fun e => hf (.inr (.inl e)))]
structure Flt (m0 m : DM) : Prop where
  cd : CD m (-1)
  meant : m.meant = m0.meant
theorem Flt.flip {m0 m : DM} (h : Flt m0 m) (s b : Int) : Flt m0 (m.flip s b).2 := by
  have hok := DM.flip_ok h.cd.b.ok s b
  unfold DM.flip at hok ⊢
  split
  · exact h
  · rename_i hh
    rw [if_neg hh] at hok
    exact ⟨⟨⟨hok, by show (List.set _ _ _).length = 156; rw [List.length_set]; exact h.cd.b.size, h.cd.b.waits, h.cd.b.down⟩, h.cd.dead, h.cd.power⟩, h.meant⟩
theorem Flt.lose {m0 m : DM} (h : Flt m0 m) (s : Int) : Flt m0 (m.lose s).2 := by
  have hok := DM.lose_ok h.cd.b.ok s
  unfold DM.lose at hok ⊢
  split
  · exact h
  · rename_i hh
    rw [if_neg hh] at hok
    exact ⟨⟨⟨hok, h.cd.b.size, h.cd.b.waits, h.cd.b.down⟩, h.cd.dead, h.cd.power⟩, h.meant⟩
theorem Flt.stray {m0 m : DM} (h : Flt m0 m) (a b : Int) : Flt m0 (m.stray a b).2 := by
  have hok := DM.stray_ok h.cd.b.ok a b
  unfold DM.stray at hok ⊢
  split
  · exact h
  · rename_i hh
    rw [if_neg hh] at hok
    exact ⟨⟨⟨hok, by show (List.set _ _ _).length = 156; rw [List.length_set]; exact h.cd.b.size, h.cd.b.waits, h.cd.b.down⟩, h.cd.dead, h.cd.power⟩, h.meant⟩
theorem at_hold {m : DM} (hs : m.size = 156) {t : Nat} (ht : t < 156) : (m.at_ (t : Int)).1 = m.hold t ∧ (m.at_ (t : Int)).2.1 = m.lost.getD t false := by
  have hh : m.has (t : Int) = true := DM.has_iff.2 ⟨by omega, by rw [hs]; omega⟩
  unfold DM.at_ DM.hold
  rw [if_neg (by rw [hh]; simp), Int.toNat_natCast]
  cases hl : m.lost.getD t false <;> simp
theorem Flt.same {m0 m : DM} (h : Flt m0 m) (h0 : CD m0 (-1)) (hn : NInv m0) {t : Nat} (ht : t < 156) (hu : m.hurt (t : Int) = false) : m.hold t = m0.hold t := by
  obtain ⟨a, b⟩ := unhurt hu
  obtain ⟨c, d⟩ := unhurt (hn.hurt (t : Int))
  rw [← (at_hold h.cd.b.size ht).1, ← (at_hold h0.b.size ht).1, b, d]
  unfold DM.means DM.has
  rw [h.cd.b.size, h0.b.size, h.meant]
theorem wh3 {q : Nat} (h : q < 24) : wReg (sR q : Int) = 3 ∧ wPlc (sR q : Int) = (q : Int) := by
  unfold wReg wPlc sR
  rw [if_neg (by omega), if_neg (by omega), if_neg (by omega), if_pos (by omega), if_neg (by omega), if_neg (by omega), if_neg (by omega), if_pos (by omega)]
  exact ⟨rfl, by omega⟩
theorem wh4 {p j : Nat} (h : p < 48) (hj : j ≤ 1) : wReg ((sF p + j : Nat) : Int) = 4 ∧ wPlc ((sF p + j : Nat) : Int) = (p : Int) := by
  unfold wReg wPlc sF
  rw [if_neg (by omega), if_neg (by omega), if_neg (by omega), if_neg (by omega), if_pos (by omega), if_neg (by omega), if_neg (by omega), if_neg (by omega), if_neg (by omega), if_pos (by omega)]
  exact ⟨rfl, by omega⟩
theorem seen_bad {m : DM} {r : Int} (h : m.seenB r = true) {t : Nat} (ht : t < 156) (hu : m.hurt (t : Int) = true) : m.badB r (wReg (t : Int)) (wPlc (t : Int)) = true := by
  unfold DM.seenB at h
  rw [List.all_eq_true] at h
  exact h _ (hurtsIn_mem.2 ⟨hu, by omega, by omega⟩)
theorem rest_one (m : DM) (hs : m.size = 156) {t : Nat} (ht : t < 156) : m.restL (t : Int) 1 = m.hold t ∧ m.lostB (t : Int) 1 = m.lost.getD t false := by
  obtain ⟨a, b⟩ := at_hold hs ht
  constructor
  · show [] ++ (m.at_ ((t : Int) + ((0 : Nat) : Int))).1 = _
    rw [show (t : Int) + ((0 : Nat) : Int) = (t : Int) from by omega, a]; rfl
  · unfold DM.lostB
    rw [anyIn_succ, anyIn_zero, show (t : Int) + ((0 : Nat) : Int) = (t : Int) from by omega, b]; rfl
theorem rest_two (m : DM) (hs : m.size = 156) {t : Nat} (ht : t + 1 < 156) : m.restL (t : Int) 2 = m.hold t ++ m.hold (t + 1) ∧ m.lostB (t : Int) 2 = (m.lost.getD t false || m.lost.getD (t + 1) false) := by
  obtain ⟨a, b⟩ := at_hold hs (t := t) (by omega)
  obtain ⟨c, d⟩ := at_hold hs ht
  constructor
  · show ([] ++ (m.at_ ((t : Int) + ((0 : Nat) : Int))).1) ++ (m.at_ ((t : Int) + ((1 : Nat) : Int))).1 = _
    rw [show (t : Int) + ((0 : Nat) : Int) = (t : Int) from by omega, show (t : Int) + ((1 : Nat) : Int) = ((t + 1 : Nat) : Int) from by omega, a, c]; rfl
  · unfold DM.lostB
    rw [anyIn_succ, anyIn_succ, anyIn_zero, show (t : Int) + ((0 : Nat) : Int) = (t : Int) from by omega, show (t : Int) + ((1 : Nat) : Int) = ((t + 1 : Nat) : Int) from by omega, b, d]; rfl
theorem hold_lost {m : DM} {t : Nat} (h : m.lost.getD t false = true) : m.hold t = [] := by unfold DM.hold; rw [if_pos h]
theorem hold_full {m : DM} (hok : m.Ok) (hs : m.size = 156) {t : Nat} (ht : t < 156) (h : m.lost.getD t false = false) : m.hold t ≠ [] := by
  have hl : t < m.rest.length := by have : m.rest.length = 156 := hs; omega
  unfold DM.hold
  rw [if_neg (by rw [h]; simp), List.getD_eq_getElem?_getD, List.getElem?_eq_getElem hl, Option.getD_some]
  intro he
  have := (hok.rests _ (List.getElem_mem hl)).1
  rw [he] at this
  cases this
theorem Flt.rec_ {m0 m : DM} (h : Flt m0 m) (h0 : CD m0 (-1)) (hn : NInv m0) {r : Int} (hs : m.seenB r = true) {q : Nat} (hq : q < 24) : HrtR (m0.recM r (q : Int)) (m.recM r (q : Int)) ∧ (anyIn m.hurt (firstS 3 (q : Int)) (wid 3) = false → m.recM r (q : Int) = m0.recM r (q : Int)) := by
  rw [h0.recM hq, h.cd.recM hq, first3 hq]
  have hy : ∀ {hu : m.hurt (sR q : Int) = false}, m.hold (sR q) = m0.hold (sR q) := fun {hu} => h.same h0 hn (sR_lt hq) hu
  constructor
  · by_cases hu : m.hurt (sR q : Int) = true
    · have hb := seen_bad hs (sR_lt hq) hu
      rw [(wh3 hq).1, (wh3 hq).2] at hb
      unfold DM.badB at hb
      rw [first3 hq, show wid 3 = 1 from rfl, (rest_one m h.cd.b.size (sR_lt hq)).1, (rest_one m h.cd.b.size (sR_lt hq)).2, Bool.or_eq_true, decide_eq_true_iff] at hb
      right
      rcases hb with hb | hb
      · rw [hold_lost hb, recQ_nil]
      · unfold recQ; rw [hb]; rfl
    · exact .inl (by rw [hy (hu := by simpa using hu)])
  · intro ha
    have : m.hurt (sR q : Int) = false := by
      rw [show wid 3 = 1 from rfl, anyIn_succ, anyIn_zero, show ((sR q : Nat) : Int) + ((0 : Nat) : Int) = (sR q : Int) from by omega] at ha
      simpa using ha
    rw [hy (hu := this)]
theorem Flt.cop_ {m0 m : DM} (h : Flt m0 m) (h0 : CD m0 (-1)) (hn : NInv m0) {r : Int} (hs : m.seenB r = true) {p : Nat} (hp : p < 48) : HrtC (m0.copM r (p : Int)) (m.copM r (p : Int)) ∧ (anyIn m.hurt (firstS 4 (p : Int)) (wid 4) = false → m.copM r (p : Int) = m0.copM r (p : Int)) := by
  have hlt := sF_lt hp
  rw [h0.copM hp, h.cd.copM hp, first4 hp]
  have two : anyIn m.hurt (sF p : Int) 2 = (m.hurt (sF p : Int) || m.hurt ((sF p + 1 : Nat) : Int)) := by
    rw [anyIn_succ, anyIn_succ, anyIn_zero, show ((sF p : Nat) : Int) + ((0 : Nat) : Int) = (sF p : Int) from by omega, show ((sF p : Nat) : Int) + ((1 : Nat) : Int) = ((sF p + 1 : Nat) : Int) from by omega]; rfl
  have same : m.hurt (sF p : Int) = false → m.hurt ((sF p + 1 : Nat) : Int) = false → pair2 (m.hold (sF p)) (m.hold (sF p + 1)) = pair2 (m0.hold (sF p)) (m0.hold (sF p + 1)) := fun a b => by rw [h.same h0 hn (by omega) a, h.same h0 hn hlt b]
  have bad : m.badB r 4 (p : Int) = true → (copQ r (p : Int) (pair2 (m.hold (sF p)) (m.hold (sF p + 1)))).st = 2 := fun hb => by
    unfold DM.badB at hb
    rw [first4 hp, show wid 4 = 2 from rfl, (rest_two m h.cd.b.size hlt).1, (rest_two m h.cd.b.size hlt).2, Bool.or_eq_true, Bool.or_eq_true, decide_eq_true_iff] at hb
    by_cases hl : m.lost.getD (sF p) false = true ∨ m.lost.getD (sF p + 1) false = true
    · have : pair2 (m.hold (sF p)) (m.hold (sF p + 1)) = [] := by
        unfold pair2
        rcases hl with hl | hl
        · rw [if_pos (.inl (hold_lost hl))]
        · rw [if_pos (.inr (hold_lost hl))]
      rw [this, copQ_nil]
    · have hb2 := hb.resolve_left hl
      have : pair2 (m.hold (sF p)) (m.hold (sF p + 1)) = m.hold (sF p) ++ m.hold (sF p + 1) := by
        unfold pair2
        rw [if_neg]
        rintro (e | e)
        · exact hold_full h.cd.b.ok h.cd.b.size (by omega) (by simpa using fun x => hl (.inl x)) e
        · exact hold_full h.cd.b.ok h.cd.b.size hlt (by simpa using fun x => hl (.inr x)) e
      rw [this]
      unfold copQ
      rw [hb2]
      rfl
  constructor
  · by_cases hu : m.hurt (sF p : Int) = true
    · have hb := seen_bad hs (by omega) hu
      have h4 := wh4 hp (j := 0) (by omega)
      rw [Nat.add_zero] at h4
      rw [h4.1, h4.2] at hb
      exact .inr (bad hb)
    · by_cases hu2 : m.hurt ((sF p + 1 : Nat) : Int) = true
      · have hb := seen_bad hs hlt hu2
        rw [(wh4 hp (j := 1) (by omega)).1, (wh4 hp (j := 1) (by omega)).2] at hb
        exact .inr (bad hb)
      · exact .inl (by rw [same (by simpa using hu) (by simpa using hu2)])
  · intro ha
    rw [show wid 4 = 2 from rfl, two, Bool.or_eq_false_iff] at ha
    rw [same ha.1 ha.2]
end
section
def unE (x : Int × DM) (f : DM → Int × DM) : Int × DM := if x.1 = 0 then f x.2 else x
def wrsE (x : Int × DM) (S : Int) (L : List Nat) : Nat → Int × DM
  | 0 => x
  | k + 1 => unE (wrsE x S L k) fun m => m.write (S + (k : Int)) ((L.drop (64 * k)).take 64)
theorem wrs_err {E : Int} {m : DM} (h : E ≠ 0) (S : Int) (L : List Nat) : ∀ W, wrsE (E, m) S L W = (E, m)
  | 0 => rfl
  | k + 1 => by
    show unE (wrsE (E, m) S L k) _ = _
    rw [wrs_err h S L k]
    exact if_neg h
end
section
def fitsC (k count n : Nat) : Bool := decide (1 ≤ count ∧ count ≤ 8 ∧ k < count ∧ n ≤ 80 ∧ (k + 1 < count → n = 80) ∧ (1 ≤ n ∨ count = 1))
theorem fitsC_iff {k count n : Nat} : fitsC k count n = true ↔ 1 ≤ count ∧ count ≤ 8 ∧ k < count ∧ n ≤ 80 ∧ (k + 1 < count → n = 80) ∧ (1 ≤ n ∨ count = 1) := decide_eq_true_iff
def chunkN (n : Nat) : Nat := if n ≤ 80 then 1 else (n + 79) / 80
def chunkL (b : List Nat) (k : Nat) : List Nat := (b.drop (80 * k)).take 80
def splitL (b : List Nat) : List (List Nat) := (List.range (chunkN b.length)).map (chunkL b)
theorem chunkN_in {n : Nat} (h : n ≤ 640) : 1 ≤ chunkN n ∧ chunkN n ≤ 8 ∧ n ≤ 80 * chunkN n ∧ (2 ≤ chunkN n → 80 * (chunkN n - 1) < n) := by unfold chunkN; split <;> omega
theorem splitL_len (b : List Nat) : (splitL b).length = chunkN b.length := by unfold splitL; simp
theorem splitL_get {b : List Nat} {k : Nat} (h : k < chunkN b.length) : (splitL b)[k]? = some (chunkL b k) := by
  unfold splitL
  rw [List.getElem?_map, List.getElem?_range h]; rfl
theorem chunkL_len (b : List Nat) (k : Nat) : (chunkL b k).length = min 80 (b.length - 80 * k) := by unfold chunkL; rw [List.length_take, List.length_drop]
theorem chunks_join (b : List Nat) : ∀ k, ((List.range k).map (chunkL b)).flatten = b.take (80 * k)
  | 0 => by simp
  | k + 1 => by
    rw [List.range_succ, List.map_append, List.flatten_append, chunks_join b k]
    simp only [List.map_cons, List.map_nil, List.flatten_cons, List.flatten_nil, List.append_nil]
    unfold chunkL
    rw [show 80 * (k + 1) = 80 * k + 80 from by omega, List.take_add]
theorem split_flat {b : List Nat} (h : b.length ≤ 640) : (splitL b).flatten = b := by
  unfold splitL
  rw [chunks_join, List.take_of_length_le (chunkN_in h).2.2.1]
theorem split_fits {b : List Nat} (h : b.length ≤ 640) {k : Nat} (hk : k < chunkN b.length) : fitsC k (chunkN b.length) (chunkL b k).length = true := by
  rw [fitsC_iff, chunkL_len]
  obtain ⟨a, b', c, d⟩ := chunkN_in h
  refine ⟨a, b', hk, by omega, fun h2 => ?_, ?_⟩
  · have := d (by omega)
    have : 80 * (k + 1) ≤ 80 * (chunkN b.length - 1) := Nat.mul_le_mul_left _ (by omega)
    omega
  · by_cases h1 : chunkN b.length = 1
    · exact .inr h1
    · left
      have := d (by omega)
      have : 80 * k ≤ 80 * (chunkN b.length - 1) := Nat.mul_le_mul_left _ (by omega)
      omega
end
section
open Go Go.RowKit
theorem u8_sizeZ (w : World) : (sizeOf (Tryz.prog.elem 45)).run Tryz.prog w = .ok 1 w := by
  have ht : Tryz.prog.elem 45 = 5 := by kernel_rfl
  obtain ⟨i0, hi, _, hz1, _⟩ := info_parts byte_info
  rw [ht]
  simp [Go.sizeOf, typeInfo, hi, hz1]
def inZ (a n b : Int) : Bool := decide (a ≤ n ∧ n ≤ b)
theorem inZ_iff {a n b : Int} : inZ a n b = true ↔ a ≤ n ∧ n ≤ b := decide_eq_true_iff
set_option maxHeartbeats 400000 in
theorem zwithin_of (a n b : Int) (w : World) : Calls Tryz.prog 269 #[.int .i64 a, .int .i64 n, .int .i64 b] w fun e w' => e = .returned (.bool (inZ a n b)) ∧ w = w' := by
  by_cases h1 : a ≤ n
  · by_cases h2 : n ≤ b
    · have hd : inZ a n b = true := inZ_iff.2 ⟨h1, h2⟩
      rw [hd]
      clear hd
      go_enter Tryz.func269, Tryz.ntmps269
      go_wp2
      go_ret
      exact ⟨rfl, rfl⟩
    · have hd : inZ a n b = false := by unfold inZ; exact decide_eq_false fun h => h2 h.2
      rw [hd]
      clear hd
      go_enter Tryz.func269, Tryz.ntmps269
      go_wp2
      go_ret
      exact ⟨rfl, rfl⟩
  · have hd : inZ a n b = false := by unfold inZ; exact decide_eq_false fun h => h1 h.1
    rw [hd]
    clear hd
    go_enter Tryz.func269, Tryz.ntmps269
    go_wp2
    go_ret
    exact ⟨rfl, rfl⟩
set_option maxHeartbeats 400000 in
theorem zcount_of (n : Int) (w : World) : Calls Tryz.prog 240 #[.int .i64 n] w fun e w' => e = .returned (.bool (inZ 1 n 8)) ∧ w = w' := by
  go_enter Tryz.func240, Tryz.ntmps240
  go_wp2_with fail
  refine (zwithin_of 1 n 8 _).mono ?_
  rintro e w1 ⟨rfl, rfl⟩
  go_wp2_with fail
  go_ret
  exact ⟨rfl, rfl⟩
def fitsZ (k : Int) (count n : Nat) : Bool := decide (0 ≤ k) && fitsC k.toNat count n
theorem fitsZ_nat {k count n : Nat} : fitsZ (k : Int) count n = fitsC k count n := by unfold fitsZ; simp
theorem fitsZ_eq {k : Int} {count n : Nat} (hc : 1 ≤ count ∧ count ≤ 8) : fitsZ k count n = (inZ 0 k ((count : Int) - 1) && inZ (if count = 1 then 0 else if k < (count : Int) - 1 then 80 else 1) (n : Int) 80) := by
  unfold fitsZ inZ
  rw [Bool.eq_iff_iff, Bool.and_eq_true, Bool.and_eq_true, decide_eq_true_iff, decide_eq_true_iff, decide_eq_true_iff, fitsC_iff]
  by_cases h1 : count = 1
  · rw [if_pos h1]; omega
  · rw [if_neg h1]
    by_cases h2 : k < (count : Int) - 1
    · rw [if_pos h2]; omega
    · rw [if_neg h2]; omega
set_option maxHeartbeats 800000 in
theorem zmay_of (count : Nat) (hc : 1 ≤ count ∧ count ≤ 8) (k : Int) (A : Option Addr) (n c : Nat) (w : World) :
    Calls Tryz.prog 242 #[.int .i64 (count : Int), .int .i64 k, .slice A n c] w fun e w' => e = .returned (.bool (fitsZ k count n)) ∧ w = w' := by
  rw [fitsZ_eq hc]
  have fin : ∀ L : Int, (if count = 1 then (0 : Int) else if k < (count : Int) - 1 then 80 else 1) = L → Hid (Calls Tryz.prog 269 #[.int .i64 L, .int .i64 (n : Int), .int .i64 80] w fun e w' => e = .returned (.bool (inZ L n 80)) ∧ w = w') := fun L _ => Lib.hid (zwithin_of L n 80 w)
  have HI := Lib.hid (zwithin_of 0 k ((count : Int) - 1) w)
  obtain ⟨b0, hb0⟩ : ∃ b0, inZ 0 k ((count : Int) - 1) = b0 := ⟨_, rfl⟩
  rw [hb0] at HI ⊢
  clear hb0
  by_cases h1 : count = 1
  · subst h1
    have H2 := fin 0 rfl
    rw [if_pos rfl]
    clear fin
    cases b0 with
    | false =>
      go_enter Tryz.func242, Tryz.ntmps242
      go_wp2_with fail
      refine HI.out.mono ?_
      rintro e w1 ⟨rfl, rfl⟩
      go_wp2_with fail
      go_ret
      exact ⟨rfl, rfl⟩
    | true =>
      go_enter Tryz.func242, Tryz.ntmps242
      go_wp2_with fail
      refine HI.out.mono ?_
      rintro e w1 ⟨rfl, rfl⟩
      go_wp2_with fail
      refine H2.out.mono ?_
      rintro e w1 ⟨rfl, rfl⟩
      go_wp2_with fail
      go_ret
      exact ⟨rfl, rfl⟩
  · have h1i : ¬ (count : Int) = 1 := by omega
    by_cases h2 : k < (count : Int) - 1
    · have H2 := fin 80 (by rw [if_neg h1, if_pos h2])
      rw [if_neg h1, if_pos h2]
      clear fin
      cases b0 with
      | false =>
        go_enter Tryz.func242, Tryz.ntmps242
        go_wp2_with fail
        refine HI.out.mono ?_
        rintro e w1 ⟨rfl, rfl⟩
        go_wp2_with fail
        go_ret
        exact ⟨rfl, rfl⟩
      | true =>
        go_enter Tryz.func242, Tryz.ntmps242
        go_wp2_with fail
        refine HI.out.mono ?_
        rintro e w1 ⟨rfl, rfl⟩
        go_wp2_with fail
        refine H2.out.mono ?_
        rintro e w1 ⟨rfl, rfl⟩
        go_wp2_with fail
        go_ret
        exact ⟨rfl, rfl⟩
    · have H2 := fin 1 (by rw [if_neg h1, if_neg h2])
      rw [if_neg h1, if_neg h2]
      clear fin
      cases b0 with
      | false =>
        go_enter Tryz.func242, Tryz.ntmps242
        go_wp2_with fail
        refine HI.out.mono ?_
        rintro e w1 ⟨rfl, rfl⟩
        go_wp2_with fail
        go_ret
        exact ⟨rfl, rfl⟩
      | true =>
        go_enter Tryz.func242, Tryz.ntmps242
        go_wp2_with fail
        refine HI.out.mono ?_
        rintro e w1 ⟨rfl, rfl⟩
        go_wp2_with fail
        refine H2.out.mono ?_
        rintro e w1 ⟨rfl, rfl⟩
        go_wp2_with fail
        go_ret
        exact ⟨rfl, rfl⟩
end
section
open Go Go.RowKit Go.Lib
theorem own_madeZ (w : World) : (w.alloc (.cells #[] 5)).ownsRow w.heap.size 5 1 (.slice (some ⟨w.heap.size, 0, none⟩) 0 0) 0 (vb []) := World.ownsRow_made w #[] 0 (Nat.le_refl _) (Nat.zero_le _) rfl
theorem sclone_by (A : Option Addr) (l : List Nat) (n c : Nat) (w : World) (hb : By w A n c l) (hm : n ≤ 140737488355328) :
    Calls Tryz.prog 187 #[.slice A n c] w fun e w' => ∃ A' c', e = .returned (.slice A' n c') ∧ By w' A' n c' l ∧ Ext w w' ∧ w'.ownsRow w.heap.size 5 1 (.slice A' n c') n (vb l) := by
  obtain ⟨i0, hi, hz0, hz1, hz2⟩ := info_parts byte_info
  have q22 : ∀ (w : World) (a : Option Addr) (n c n' c' : Nat), (binOp .eql 45 (.slice a n c) (.slice none n' c')).run Tryz.prog w = .ok (.bool a.isNone) w := fun w a n c n' c' => Lib.run_eql_slice_nil w _ _ a n c n' c' Tryz.underlying45
  have HB := Lib.hid hb
  cases A with
  | none =>
    obtain rfl := Bs.nil_ hb rfl
    have hn : n = 0 := by have := Bs.cap hb; omega
    subst hn
    have hl0 : l = [] := List.eq_nil_of_length_eq_zero (Bs.len hb)
    subst hl0
    clear hb
    go_enter Tryz.func187, Tryz.ntmps187
    go_wp2_with fail
    go_ret
    exact ⟨none, 0, rfl, By.nil_ _, Ext.refl _, World.ownsRow_nil _ _ _ _⟩
  | some ad =>
    have HX := Lib.hid ((Ext.refl w).alloc (.cells #[] 5))
    have HO := Lib.hid (own_madeZ w)
    clear hb
    go_enter Tryz.func187, Tryz.ntmps187
    go_wp2_with (at_builtin; refine wpList_append_by rfl _ _ 45 rfl w.heap.size 5 i0 Tryz.underlying45 hi hz0 hz1 hz2 _ 0 (vb []) rfl HO.out (some ad) n c l rfl (HB.out.ext HX.out) (by omega) (Ext.size HX.out) ?_)
    intro v2 w2 hown hg
    obtain ⟨hx, A2, c2, rfl, hb2, ho2⟩ := app_step (l1 := []) HX.out HO.out hg hown (by simp) HB.out.rd.lt
    have HX2 := Lib.hid hx
    have HB2 := Lib.hid hb2
    have HO2 := Lib.hid ho2
    clear hx hb2 ho2 hown hg
    go_wp2_with fail
    go_ret
    exact ⟨A2, c2, rfl, HB2.out, HX2.out, HO2.out⟩
end
section
open Go Go.RowKit
def bdZ (count : Int) (c : List Nat) : Bool := decide (1 ≤ count ∧ count ≤ 8 ∧ c.length ≤ 80)
theorem bdZ_iff {count : Int} {c : List Nat} : bdZ count c = true ↔ 1 ≤ count ∧ count ≤ 8 ∧ c.length ≤ 80 := decide_eq_true_iff
def prZE (count : Int) (c : List Nat) : Int := if bdZ count c = true then 0 else 2
def prZL (count : Int) (c : List Nat) : List Nat := if bdZ count c = true then count.toNat :: c else []
def paZ : List Nat → Nat × List Nat × Int
  | [] => (0, [], 120)
  | x :: r => if 1 ≤ x ∧ x ≤ 8 ∧ r.length ≤ 80 then (x, r, 0) else (0, [], 120)
theorem paZ_back {count : Int} {c : List Nat} (h : bdZ count c = true) : paZ (prZL count c) = (count.toNat, c, 0) := by
  have := bdZ_iff.1 h
  unfold prZL
  rw [if_pos h]
  show (if _ then _ else _) = _
  rw [if_pos (by omega)]
theorem digs_byteZ {n : Nat} (h : n < 256) : digs 1 n = [n] := by simp [digs]; omega
theorem fits_byteZ {n : Nat} (h : n < 256) : fitsB (1 : Nat) n = true := fits_iff.2 ⟨rfl, by omega, by simpa using h⟩
set_option maxHeartbeats 1000000 in
theorem zprint_any (count : Int) (A : Option Addr) (n c : Nat) (l : List Nat) (w : World) (hL : Laid w) (hb : By w A n c l) (hn : n ≤ 140737488355000) :
    Calls Tryz.prog 239 #[.int .i64 count, .slice A n c] w fun e w' => ∃ A' N' c', e = .returned (.tuple #[.slice A' N' c', .int .i64 (prZE count l)]) ∧ By w' A' N' c' (prZL count l) ∧ Ext w w' := by
  have HL := Lib.hid hL
  have HB := Lib.hid hb
  have hlen := hb.len
  clear hL hb
  cases hz : bdZ count l with
  | true =>
    obtain ⟨h1, h8, h80⟩ := bdZ_iff.1 hz
    obtain ⟨k, rfl⟩ := Int.eq_ofNat_of_zero_le (show 0 ≤ count by omega)
    have hin : inZ 1 (k : Int) 8 = true := inZ_iff.2 ⟨h1, h8⟩
    have HIN := Lib.hid hin
    have HZ := Lib.hid hz
    have hk : k ≤ 8 := by omega
    have hn80 : n ≤ 80 := by omega
    have hp := fun V (hV : Laid V) => put_by 1 k V hV (fits_byteZ (by omega))
    rw [digs_byteZ (show k < 256 by omega)] at hp
    have HP := Lib.hid hp
    clear hin hz h1 h8 h80 hlen hp
    go_enter Tryz.func239, Tryz.ntmps239
    go_wp2_with fail
    refine (zcount_of _ _).mono ?_
    rw [HIN.out]
    rintro e w1 ⟨rfl, rfl⟩
    go_wp2_with fail
    refine (HP.out _ HL.out).mono ?_
    rintro e w1 ⟨A1, c1, rfl, hby, hx⟩
    have HBY := Lib.hid hby
    have HX := Lib.hid hx
    have HB1 := Lib.hid (HB.out.ext hx)
    clear hby hx
    go_wp2_with fail
    have hj := join2_by w1 HBY.out HB1.out (by omega)
    rw [show ([k] : List Nat) ++ l = k :: l from rfl] at hj
    refine hj.mono ?_
    rintro e w2 ⟨A2, c2, rfl, hby, hx⟩
    have HBY2 := Lib.hid hby
    have HX2 := Lib.hid (HX.out.trans hx)
    clear hby hx hj
    go_wp2_with fail
    refine bodyPost_ret (v := .tuple #[.slice A2 (1 + n) c2, .int .i64 0]) (by simp [results, Tryz.results239, go_sem]) rfl ?_
    exact ⟨A2, 1 + n, c2, by unfold prZE; rw [HZ.out]; rfl, by unfold prZL; rw [HZ.out]; simpa using HBY2.out, HX2.out⟩
  | false =>
    have HZ := Lib.hid hz
    cases hin : inZ 1 count 8 with
    | false =>
      have HIN := Lib.hid hin
      clear hz hin
      go_enter Tryz.func239, Tryz.ntmps239
      go_wp2_with fail
      refine (zcount_of _ _).mono ?_
      rw [HIN.out]
      rintro e w1 ⟨rfl, rfl⟩
      go_wp2_with fail
      refine bodyPost_ret (v := .tuple #[.slice none 0 0, .int .i64 2]) (by simp [results, Tryz.results239, go_sem]) rfl ?_
      exact ⟨none, 0, 0, by unfold prZE; rw [HZ.out]; rfl, by unfold prZL; rw [HZ.out]; exact By.nil_ _, Ext.refl _⟩
    | true =>
      have h81 : 80 < n := by
        have h1 := inZ_iff.1 hin
        by_cases h : n ≤ 80
        · have hln := Bs.len HB.out
          have := (bdZ_iff (count := count) (c := l)).2 ⟨h1.1, h1.2, by omega⟩
          rw [hz] at this
          cases this
        · omega
      have HIN := Lib.hid hin
      clear hz hin
      go_enter Tryz.func239, Tryz.ntmps239
      go_wp2_with fail
      refine (zcount_of _ _).mono ?_
      rw [HIN.out]
      rintro e w1 ⟨rfl, rfl⟩
      go_wp2_with fail
      refine bodyPost_ret (v := .tuple #[.slice none 0 0, .int .i64 2]) (by simp [results, Tryz.results239, go_sem]) rfl ?_
      exact ⟨none, 0, 0, by unfold prZE; rw [HZ.out]; rfl, by unfold prZL; rw [HZ.out]; exact By.nil_ _, Ext.refl _⟩
def tlA (A : Option Addr) (c : Nat) : Option Addr := if c = 1 then A else A.map fun a => a.add 1
theorem By.tail1 {w : World} {A : Option Addr} {n c x : Nat} {r : List Nat} (h : By w A n c (x :: r)) : By w (tlA A c) (n - 1) (c - 1) r := by
  have hl := h.len
  have hcp := h.cap
  have hm := h.most
  rw [List.length_cons] at hl
  obtain ⟨g, o, hA, _⟩ := h.rd.2 (by simp)
  cases r with
  | nil =>
    simp at hl
    refine ⟨by simp; omega, by omega, by omega, Rd.nil_, fun e => ?_⟩
    subst hA
    unfold tlA at e
    split at e
    · cases e
    · cases e
  | cons y r =>
    rw [List.length_cons] at hl
    subst hA
    have e : tlA (some ⟨g, o, none⟩) c = some ⟨g, o + 1, none⟩ := by
      unfold tlA
      rw [if_neg (by omega), Option.map_some, Addr.add_lit]
    rw [e]
    refine ⟨by rw [List.length_cons]; omega, by omega, by omega, h.rd.drop rfl 1, fun e => by cases e⟩
theorem zcut_one (A : Option Addr) (n c : Nat) (h : 1 ≤ n) (w : World) : (Instr.slice 45 (.slice A n c) (some (.int .i64 1)) none none).run Tryz.prog w = .ok (.slice (tlA A c) (n - 1) (c - 1)) w := by
  have ht : Tryz.prog.elem 45 = 5 := by kernel_rfl
  rw [run_slice_l w 45 A n c (by rw [ht]; exact Tryz.underlying45) .i64 1 (by omega) (by omega), u8_sizeZ]
  simp only [Result.andThen, sliced]
  rw [show (1 : Int).toNat = 1 from rfl]
  unfold tlA
  simp
theorem getS_cons (x : Nat) (r : List Nat) : getS (x :: r) 0 1 = (x, 1, 0) := by
  unfold getS
  rw [if_neg (by simp [show wOk 1 = true from by decide]; omega), if_neg (by simp; omega)]
  simp [num]
theorem getS_nilZ : getS [] 0 1 = (0, 0, 10) := by decide
end
section
open Go
def mayU (a b c : Int) : Bool := decide (((a = 0 ∧ b = 0) ∨ (1 ≤ a ∧ a ≤ 1099511627776 ∧ 0 ≤ b ∧ b ≤ 6)) ∧ 1 ≤ c ∧ c ≤ 1099511627776)
theorem mayU_iff {a b c : Int} : mayU a b c = true ↔ (((a = 0 ∧ b = 0) ∨ (1 ≤ a ∧ a ≤ 1099511627776 ∧ 0 ≤ b ∧ b ≤ 6)) ∧ 1 ≤ c ∧ c ≤ 1099511627776) := by unfold mayU; exact decide_eq_true_iff
def uFld (a b c : Nat) : Nat → Nat
  | 0 => a
  | 1 => b
  | _ => c
def uW : Nat → Nat
  | 0 => 6
  | 1 => 1
  | _ => 6
def uPre (f : Nat → Nat) : Nat → List Nat
  | 0 => []
  | k + 1 => uPre f k ++ digs (uW k) (f k)
def uBytes (a b c : Nat) : List Nat := uPre (uFld a b c) 3
theorem uBytes_len (a b c : Nat) : (uBytes a b c).length = 13 := by simp [uBytes, uPre, digs_length, uW]
theorem uBytes_lt (a b c : Nat) : ∀ x ∈ uBytes a b c, x < 256 := by
  intro x hx
  simp only [uBytes, uPre, List.mem_append, List.not_mem_nil, false_or] at hx
  rcases hx with (h | h) | h <;> exact digs_lt _ _ _ h
theorem uFld_fits {a b c : Nat} (h : mayU a b c = true) (k : Nat) : fitsB (uW k) (uFld a b c k) = true := by
  rw [mayU_iff] at h
  refine fits_iff.2 ?_
  match k with
  | 0 => exact ⟨rfl, by omega, by show a < 281474976710656; omega⟩
  | 1 => exact ⟨rfl, by omega, by show b < 256; omega⟩
  | _ + 2 => exact ⟨rfl, by omega, by show c < 281474976710656; omega⟩
theorem mayU_nat {a b c : Int} (h : mayU a b c = true) : ∃ a' b' c' : Nat, a = a' ∧ b = b' ∧ c = c' := by
  rw [mayU_iff] at h
  obtain ⟨a', rfl⟩ := Int.eq_ofNat_of_zero_le (show 0 ≤ a by omega)
  obtain ⟨b', rfl⟩ := Int.eq_ofNat_of_zero_le (show 0 ≤ b by omega)
  obtain ⟨c', rfl⟩ := Int.eq_ofNat_of_zero_le (show 0 ≤ c by omega)
  exact ⟨a', b', c', rfl, rfl, rfl⟩
def uPos : Nat → Nat
  | 0 => 0
  | 1 => 6
  | 2 => 7
  | _ => 13
def uNum (l : List Nat) (k : Nat) : Nat := num ((l.drop (uPos k)).take (uW k))
def uV (l : List Nat) : Bool := decide (l.length = 13) && mayU (uNum l 0) (uNum l 1) (uNum l 2)
def uF (l : List Nat) (k : Nat) : Nat := if uV l = true then uNum l k else 0
def uE (l : List Nat) : Int := if uV l = true then 0 else 80
theorem uF_yes {l : List Nat} (h : uV l = true) (k : Nat) : uF l k = uNum l k := by unfold uF; rw [if_pos h]
theorem uE_yes {l : List Nat} (h : uV l = true) : uE l = 0 := by unfold uE; rw [if_pos h]
theorem uV_both {l : List Nat} (h : l.length = 13) (hm : mayU (uNum l 0) (uNum l 1) (uNum l 2) = true) : uV l = true := by unfold uV; simp [h, hm]
def uL (a b c : Int) : List Nat := if mayU a b c = true then uBytes a.toNat b.toNat c.toNat else []
theorem uL_yes {a b c : Int} (h : mayU a b c = true) : uL a b c = uBytes a.toNat b.toNat c.toNat := by unfold uL; rw [if_pos h]
theorem uL_no {a b c : Int} (h : mayU a b c = false) : uL a b c = [] := by unfold uL; rw [if_neg (by rw [h]; simp)]
theorem uL_len {a b c : Int} (h : mayU a b c = true) : (uL a b c).length = 13 := by rw [uL_yes h, uBytes_len]
theorem uL_lt (a b c : Int) : ∀ x ∈ uL a b c, x < 256 := by
  by_cases h : mayU a b c = true
  · rw [uL_yes h]; exact uBytes_lt _ _ _
  · rw [uL_no (by simpa using h)]; simp
/- There and back. -/
theorem uNum_bytes (a b c k : Nat) (hk : k < 3) (h : uFld a b c k < 256 ^ uW k) : uNum (uBytes a b c) k = uFld a b c k := by
  have key : ((uBytes a b c).drop (uPos k)).take (uW k) = digs (uW k) (uFld a b c k) := by
    have hj' : k = 0 ∨ k = 1 ∨ k = 2 := by omega
    rcases hj' with rfl | rfl | rfl <;> rfl
  unfold uNum
  rw [key, num_digs _ _ h]
theorem uV_bytes {a b c : Nat} (h : mayU a b c = true) : uV (uBytes a b c) = true ∧ ∀ k, k < 3 → uF (uBytes a b c) k = uFld a b c k := by
  have hf : ∀ k, k < 3 → uNum (uBytes a b c) k = uFld a b c k := fun k hk => uNum_bytes a b c k hk (by
    have := (fits_iff.1 (uFld_fits h k)).2.2
    simpa using this)
  have hv : uV (uBytes a b c) = true := uV_both (uBytes_len a b c) (by
    rw [hf 0 (by omega), hf 1 (by omega), hf 2 (by omega)]
    exact h)
  exact ⟨hv, fun k hk => by rw [uF_yes hv, hf k hk]⟩
theorem uBack {a b c : Int} (h : mayU a b c = true) : uV (uL a b c) = true ∧ (uF (uL a b c) 0 : Int) = a ∧ (uF (uL a b c) 1 : Int) = b ∧ (uF (uL a b c) 2 : Int) = c := by
  obtain ⟨a, b, c, rfl, rfl, rfl⟩ := mayU_nat h
  rw [uL_yes h]
  simp only [Int.toNat_natCast]
  obtain ⟨hv, hf⟩ := uV_bytes h
  exact ⟨hv, by rw [hf 0 (by omega)]; rfl, by rw [hf 1 (by omega)]; rfl, by rw [hf 2 (by omega)]; rfl⟩
end
end Go.Proofs.YtgcinagkbdcgiaaGreatDoor
