/-
  Plain facts on logs for the statements: what is told of an index, of all; puts in a row; puts that end anywhere.
-/
import Derived.Test.YtgcinagkbdcgiaaGreatDoorR00
import Derived.Test.YtgcinagkbdcgiaaGreatDoorR06
import Derived.Test.YtgcinagkbdcgiaaGreatDoorR07
import Derived.Test.YtgcinagkbdcgiaaGreatDoorR13
import Derived.Test.YtgcinagkbdcgiaaGreatDoorR16
import Derived.Test.YtgcinagkbdcgiaaGreatDoorR17
import Derived.Test.YtgcinagkbdcgiaaGreatDoorR24
import Derived.Test.YtgcinagkbdcgiaaGreatDoorR25
import Derived.Deep.DeepCutAuto
import Derived.Deep.MidRow
import Derived.RangeFuncNested
import Derived.RangeFuncBound
import Derived.RangeFuncCalls
import Derived.RangeFuncLeaves
import Derived.Shelf.Abstract
import Derived.Shelf.RegionOpen
import Derived.WalkKit
import Derived.OwnWalkIn
import Derived.TacticsInMore
import Derived.LoopNIn
import Derived.LoopIn
import Derived.Deep.RegionHeld3
namespace Go.Proofs.YtgcinagkbdcgiaaGreatDoor
set_option maxRecDepth 100000
section
structure Rpt where
  ix : Int := 0
  st : Nat := 0
  x : Int := 0
  y : Int := 0
  e : Ent := {}
def DM.clsW (m : DM) (r i : Int) : Nat := classL (m.recM r (placeW i)) (m.copM r (2 * placeW i)) (m.copM r (2 * placeW i + 1)) i
def stateW (p : Rec) (f0 f1 : CopL) (i : Int) : Nat := if 0 ≤ whereL p f0 f1 i then 2 else if p.of i then 3 else if beyL p f0 f1 i ∨ (p.st = 2 ∧ badL f0 f1) then 4 else 1
def rptOf (p : Rec) (f0 f1 : CopL) (i : Int) : Rpt := ⟨i, stateW p f0 f1 i, repX p f0 f1 i, repY p f0 f1 i, repE p f0 f1 i⟩
def DM.rptW (m : DM) (r i : Int) : Rpt := rptOf (m.recM r (placeW i)) (m.copM r (2 * placeW i)) (m.copM r (2 * placeW i + 1)) i
theorem clsW_of {m : DM} {r i : Int} {q : Nat} (hq : placeW i = (q : Int)) : m.clsW r i = classL (m.recM r (q : Int)) (m.copM r ((2 * q : Nat) : Int)) (m.copM r ((2 * q + 1 : Nat) : Int)) i := by
  unfold DM.clsW
  rw [hq, show 2 * (q : Int) = ((2 * q : Nat) : Int) from by omega, show ((2 * q : Nat) : Int) + 1 = ((2 * q + 1 : Nat) : Int) from by omega]
theorem rptW_of {m : DM} {r i : Int} {q : Nat} (hq : placeW i = (q : Int)) : m.rptW r i = rptOf (m.recM r (q : Int)) (m.copM r ((2 * q : Nat) : Int)) (m.copM r ((2 * q + 1 : Nat) : Int)) i := by
  unfold DM.rptW
  rw [hq, show 2 * (q : Int) = ((2 * q : Nat) : Int) from by omega, show ((2 * q : Nat) : Int) + 1 = ((2 * q + 1 : Nat) : Int) from by omega]
theorem rpt_told {p : Rec} {f0 f1 : CopL} {i x y : Int} {e : Ent} (hc : classL p f0 f1 i = 3) (hx : repX p f0 f1 i = x) (hy : repY p f0 f1 i = y) (he : repE p f0 f1 i = e) : rptOf p f0 f1 i = ⟨i, 2, x, y, e⟩ := by
  unfold rptOf stateW
  rw [if_pos (classL_three.1 hc), hx, hy, he]
theorem CD.putW {m : DM} (h : CD m (-1)) {r inc i x y : Int} {e : Ent} {q : Nat} (hq : placeW i = (q : Int)) (hq24 : q < 24) (hr : 0 ≤ r ∧ r ≤ 6) (hi : 0 ≤ i ∧ i ≤ 1099511627776) (hc : 1 ≤ inc ∧ inc ≤ 1099511627776) (hb : balE x y = true) (he : enOk e = true) :
    ∃ m', m.putW r inc i x y e = (0, m') ∧ CD m' (-1) ∧ (NInv m → NInv m') := by
  have hk := nextW_two m r i
  obtain ⟨p, hp, hp48⟩ : ∃ p : Nat, 2 * (q : Int) + m.nextW r i = (p : Int) ∧ p < 48 := ⟨(2 * (q : Int) + m.nextW r i).toNat, by omega, by omega⟩
  have m3 := mayW3 (q := q) hr hi hc hq24
  have m4 := mayW4 (p := p) hr hi hc hp48
  obtain ⟨s1, s2, sp⟩ := frmW_sects (x := x) (y := y) (e := e) m4 hb he
  have s3 := recW_sect (x := x) (y := y) m3 (recB_iff.2 ⟨balE_iff.1 hb, hk⟩)
  obtain ⟨m', e1, c1, n1, _⟩ := h.putK hq24 hp48 (k := m.nextW r i) (x := x) (y := y) (e := e) hp s1 s2 s3
  exact ⟨m', by unfold DM.putW; rw [hq]; exact e1, c1, n1⟩
theorem Tch.putW {m : DM} {pw : Int} (h : CD m pw) {r inc i x y : Int} {e : Ent} {q : Nat} (hq : placeW i = (q : Int)) (hq24 : q < 24) (hr : 0 ≤ r ∧ r ≤ 6) (hi : 0 ≤ i ∧ i ≤ 1099511627776) (hc : 1 ≤ inc ∧ inc ≤ 1099511627776) (hb : balE x y = true) (he : enOk e = true) :
    Tch (m.putW r inc i x y e).2 (slT q) m.hold := by
  have hk := nextW_two m r i
  obtain ⟨p, hp, hp48, hpc⟩ : ∃ p : Nat, 2 * (q : Int) + m.nextW r i = (p : Int) ∧ p < 48 ∧ (p = 2 * q ∨ p = 2 * q + 1) := ⟨(2 * (q : Int) + m.nextW r i).toNat, by omega, by omega, by omega⟩
  have m3 := mayW3 (q := q) hr hi hc hq24
  have m4 := mayW4 (p := p) hr hi hc hp48
  obtain ⟨s1, s2, sp⟩ := frmW_sects (x := x) (y := y) (e := e) m4 hb he
  have s3 := recW_sect (x := x) (y := y) m3 (recB_iff.2 ⟨balE_iff.1 hb, hk⟩)
  have h0 : Tch m (putT q p) m.hold := ⟨h.b.ok, h.b.size, h.b.down, (fun z hz => by rw [h.b.waits] at hz; cases hz), fun _ _ => rfl⟩
  have fb : ∀ z ∈ frmW r inc i (p : Int) x y e, z < 256 := sealL_lt (bodyL_lt he hb)
  have h1 := Tch.putK hq24 hp48 (r := r) (inc := inc) (i := i) (k := m.nextW r i) (x := x) (y := y) (e := e) hp h0 fb s3.2
  have hin : ∀ t, putT q p t → slT q t := fun t ht => by
    unfold putT at ht
    unfold slT
    rcases hpc with rfl | rfl
    · rcases ht with ht | ht | ht
      · exact .inl ht
      · exact .inr (.inl ht)
      · exact .inr (.inr (.inl ht))
    · rcases ht with ht | ht | ht
      · exact .inl ht
      · exact .inr (.inr (.inr (.inl ht)))
      · exact .inr (.inr (.inr (.inr ht)))
  have e1 : m.putW r inc i x y e = m.putK r inc i (q : Int) (m.nextW r i) x y e := by unfold DM.putW; rw [hq]
  rw [e1]
  exact ⟨h1.ok, h1.size, h1.down, fun z hz => hin _ (h1.waits z hz), fun t ht => h1.hold t fun hh => ht (hin t hh)⟩
theorem CD.power_ {m : DM} (h : CD m (-1)) (n : Nat) : ∃ m', m.setPower (n : Int) = (0, m') ∧ CD m' (n : Int) ∧ ∀ t, m'.hold t = m.hold t := by
  have hok := DM.setPower_ok h.b.ok (n : Int)
  have e : m.setPower (n : Int) = (0, { m with power := (n : Int) }) := by
    unfold DM.setPower
    rw [if_neg (by rw [h.up]; simp), if_neg (by omega)]
  rw [e] at hok
  exact ⟨_, e, ⟨⟨hok, h.b.size, h.b.waits, h.b.down⟩, h.dead, rfl⟩, fun _ => rfl⟩
def lastQ (q N : Nat) : Nat := if N ≤ q then 0 else q + 1 + 24 * ((N - 1 - q) / 24)
def noopE : Ent := { k := 1 }
def oQ (q N : Nat) : Option (Int × Int × Ent) := if N ≤ q then none else some ((lastQ q N : Nat), 0, noopE)
structure RInv (m : DM) (N : Nat) : Prop where
  cd : CD m (-1)
  sl : ∀ q, q < 24 → SlD m 0 q (lastQ q N : Nat) (oQ q N)
theorem lastQ_far {q N : Nat} (h : q ≠ N % 24) (hq : q < 24) : lastQ q (N + 1) = lastQ q N ∧ oQ q (N + 1) = oQ q N := by
  have hl : lastQ q (N + 1) = lastQ q N := by
    unfold lastQ
    by_cases h1 : N ≤ q
    · have : N ≠ q := fun e => h (by rw [e]; omega)
      rw [if_pos (by omega), if_pos h1]
    · rw [if_neg (by omega), if_neg h1]
      omega
  refine ⟨hl, ?_⟩
  unfold oQ
  rw [hl]
  by_cases h1 : N ≤ q
  · have : N ≠ q := fun e => h (by rw [e]; omega)
    rw [if_pos (by omega), if_pos h1]
  · rw [if_neg (by omega), if_neg h1]
theorem noop_ok : enOk noopE = true := by decide
theorem lastQ_now (N : Nat) : lastQ (N % 24) (N + 1) = N + 1 := by
  unfold lastQ
  rw [if_neg (by omega)]
  omega
theorem RInv.put {m : DM} {N : Nat} (h : RInv m N) (hN : N < 1099511627776) {inc : Int} (hc : 1 ≤ inc ∧ inc ≤ 1099511627776) : ∃ m', m.putW 0 inc ((N + 1 : Nat) : Int) ((N + 1 : Nat) : Int) 0 noopE = (0, m') ∧ RInv m' (N + 1) := by
  have hq : placeW ((N + 1 : Nat) : Int) = ((N % 24 : Nat) : Int) := by unfold placeW; omega
  have hq24 : N % 24 < 24 := by omega
  obtain ⟨m', e1, c1, _, s1, g1⟩ := SlD.put h.cd (inc := inc) (x := ((N + 1 : Nat) : Int)) (y := 0) (e := noopE) hq hq24 (h.sl _ hq24) (by omega) (by omega) hc (balE_iff.2 (by omega)) noop_ok (by
    unfold oQ lastQ
    by_cases h1 : N ≤ N % 24
    · rw [if_pos h1]; exact .inl rfl
    · rw [if_neg h1, if_neg h1]; exact .inr (.inl (by omega)))
  refine ⟨m', e1, c1, fun q hql => ?_⟩
  by_cases hqq : q = N % 24
  · subst hqq
    rw [lastQ_now]
    have : oQ (N % 24) (N + 1) = some (((N + 1 : Nat) : Int), 0, noopE) := by unfold oQ; rw [if_neg (by omega), lastQ_now]
    rw [this]
    exact s1
  · obtain ⟨a, b⟩ := lastQ_far hqq hql
    rw [a, b]
    exact SlD.of_same h.cd c1 hql (g1 q hql hqq) (h.sl q hql)
theorem RInv.told {m : DM} {N i : Nat} (h : RInv m N) (h1 : 1 ≤ i) (h2 : i ≤ N) (h3 : N < i + 24) : m.clsW 0 (i : Int) = 3 ∧ m.rptW 0 (i : Int) = ⟨(i : Int), 2, (i : Int), 0, noopE⟩ := by
  have hq : placeW (i : Int) = (((i - 1) % 24 : Nat) : Int) := by unfold placeW; omega
  have hs := h.sl ((i - 1) % 24) (by omega)
  have hl : lastQ ((i - 1) % 24) N = i := by unfold lastQ; rw [if_neg (by omega)]; omega
  have ho : oQ ((i - 1) % 24) N = some ((i : Int), 0, noopE) := by unfold oQ; rw [hl, if_neg (by omega)]
  rw [hl, ho] at hs
  obtain ⟨a, b, c, d⟩ := SlH.told hs
  rw [clsW_of hq, rptW_of hq]
  exact ⟨a, rpt_told a b c d⟩
structure PutA where
  at_ : Nat := 0
  x : Int := 0
  y : Int := 0
  e : Ent := {}
def lastP (l : List PutA) : Nat → Nat → Nat
  | 0, _ => 0
  | n + 1, k => if k = 1 + (l.getD n {}).at_ % 24 ∧ (lastP l n k = 0 ∨ gtL (l.getD n {}).x (l.getD n {}).y (l.getD (lastP l n k - 1) {}).x (l.getD (lastP l n k - 1) {}).y) then n + 1 else lastP l n k
def oP (l : List PutA) (n k : Nat) : Option (Int × Int × Ent) := if lastP l n k = 0 then none else some ((l.getD (lastP l n k - 1) {}).x, (l.getD (lastP l n k - 1) {}).y, (l.getD (lastP l n k - 1) {}).e)
structure NPut (m : DM) (r : Int) (l : List PutA) (n : Nat) : Prop where
  cd : CD m (-1)
  ni : NInv m
  sl : ∀ q, q < 24 → SlD m r q ((q + 1 : Nat) : Int) (oP l n (q + 1))
theorem oP_far {l : List PutA} {n k : Nat} (h : k ≠ 1 + (l.getD n {}).at_ % 24) : oP l (n + 1) k = oP l n k ∧ lastP l (n + 1) k = lastP l n k := by
  have : lastP l (n + 1) k = lastP l n k := by
    show (if _ then _ else _) = _
    rw [if_neg fun hh => h hh.1]
  exact ⟨by unfold oP; rw [this], this⟩
theorem NPut.put {m : DM} {r : Int} {l : List PutA} {n k : Nat} (h : NPut m r l n) (hk : k = 1 + (l.getD n {}).at_ % 24) (hs : lastP l n k = 0 ∨ gtL (l.getD n {}).x (l.getD n {}).y (l.getD (lastP l n k - 1) {}).x (l.getD (lastP l n k - 1) {}).y)
    (hr : 0 ≤ r ∧ r ≤ 6) {inc : Int} (hc : 1 ≤ inc ∧ inc ≤ 1099511627776) (hb : balE (l.getD n {}).x (l.getD n {}).y = true) (he : enOk (l.getD n {}).e = true) :
    ∃ m', m.putW r inc (k : Int) (l.getD n {}).x (l.getD n {}).y (l.getD n {}).e = (0, m') ∧ NPut m' r l (n + 1) ∧ lastP l (n + 1) k = n + 1 ∧ ∀ k', k' ≠ k → lastP l (n + 1) k' = lastP l n k' := by
  obtain ⟨q, hq⟩ : ∃ q, q = (l.getD n {}).at_ % 24 := ⟨_, rfl⟩
  have hq24 : q < 24 := by omega
  have hkq : k = q + 1 := by omega
  have hpl : placeW (k : Int) = (q : Int) := by unfold placeW; omega
  have hnow : lastP l (n + 1) k = n + 1 := by
    show (if _ then _ else _) = _
    rw [if_pos ⟨hk, hs⟩]
  have hfar : ∀ k', k' ≠ k → lastP l (n + 1) k' = lastP l n k' := fun k' hne => (oP_far (by rw [← hk]; exact hne)).2
  have hsl := h.sl q hq24
  rw [← hkq] at hsl
  obtain ⟨m', e1, c1, n1, s1, g1⟩ := SlD.put h.cd (inc := inc) (x := (l.getD n {}).x) (y := (l.getD n {}).y) (e := (l.getD n {}).e) hpl hq24 hsl hr (by omega) hc hb he (by
    unfold oP
    by_cases hz : lastP l n k = 0
    · rw [if_pos hz]; exact .inl rfl
    · rw [if_neg hz]
      refine .inr (.inr ⟨rfl, fun a b c hh => ?_⟩)
      injection hh with hh
      injection hh with h1 hh
      injection hh with h2 h3
      rw [← h1, ← h2]
      exact hs.resolve_left hz)
  refine ⟨m', e1, ⟨c1, n1 h.ni, fun q' hq' => ?_⟩, hnow, hfar⟩
  by_cases hqq : q' = q
  · subst hqq
    rw [← hkq]
    have : oP l (n + 1) k = some ((l.getD n {}).x, (l.getD n {}).y, (l.getD n {}).e) := by
      unfold oP
      rw [hnow, if_neg (by omega), Nat.add_sub_cancel]
    rw [this]
    exact s1
  · rw [(oP_far (l := l) (n := n) (k := q' + 1) (by omega)).1]
    exact SlD.of_same h.cd c1 hq' (g1 q' hq' hqq) (h.sl q' hq')
theorem NPut.hurt {m0 m : DM} {r : Int} {l : List PutA} {n : Nat} (h : NPut m0 r l n) (hf : Flt m0 m) (hs : m.seenB r = true) {k : Nat} (h1 : 1 ≤ k) (h2 : k ≤ 24) :
    (lastP l n k = 0 → m.clsW r (k : Int) ≠ 3) ∧
    (lastP l n k ≠ 0 → (m.clsW r (k : Int) = 3 ∧ m.rptW r (k : Int) = ⟨(k : Int), 2, (l.getD (lastP l n k - 1) {}).x, (l.getD (lastP l n k - 1) {}).y, (l.getD (lastP l n k - 1) {}).e⟩) ∨
      (m.clsW r (k : Int) = 2 ∧ (anyIn m.hurt (firstS 3 ((k - 1 : Nat) : Int)) (wid 3) = true ∨ anyIn m.hurt (firstS 4 ((2 * (k - 1) : Nat) : Int)) (wid 4) = true ∨ anyIn m.hurt (firstS 4 ((2 * (k - 1) + 1 : Nat) : Int)) (wid 4) = true))) := by
  have hq : placeW (k : Int) = ((k - 1 : Nat) : Int) := by unfold placeW; omega
  have hsl := h.sl (k - 1) (by omega)
  rw [show k - 1 + 1 = k from by omega] at hsl
  obtain ⟨a1, a2⟩ := hf.rec_ h.cd h.ni hs (q := k - 1) (by omega)
  obtain ⟨b1, b2⟩ := hf.cop_ h.cd h.ni hs (p := 2 * (k - 1)) (by omega)
  obtain ⟨c1, c2⟩ := hf.cop_ h.cd h.ni hs (p := 2 * (k - 1) + 1) (by omega)
  rw [clsW_of hq, rptW_of hq]
  unfold oP at hsl
  constructor
  · intro hz
    rw [if_pos hz] at hsl
    exact hurt_none hsl a1 b1 c1
  · intro hz
    rw [if_neg hz] at hsl
    rcases hurt_some hsl a1 b1 c1 with ⟨t1, t2, t3, t4⟩ | ⟨t1, t2⟩
    · exact .inl ⟨t1, rpt_told t1 t2 t3 t4⟩
    · refine .inr ⟨t1, ?_⟩
      by_cases u1 : anyIn m.hurt (firstS 3 ((k - 1 : Nat) : Int)) (wid 3) = true
      · exact .inl u1
      · by_cases u2 : anyIn m.hurt (firstS 4 ((2 * (k - 1) : Nat) : Int)) (wid 4) = true
        · exact .inr (.inl u2)
        · by_cases u3 : anyIn m.hurt (firstS 4 ((2 * (k - 1) + 1 : Nat) : Int)) (wid 4) = true
          · exact .inr (.inr u3)
          · exact absurd ⟨a2 (by simpa using u1), b2 (by simpa using u2), c2 (by simpa using u3)⟩ t2
end
section
open Go Go.RowKit
section
variable {w : World} {g d s : Nat} {r inc : Int} {F : Nat → Prop} {m : DM}
end
end
section
open Go Go.RowKit
section
variable {w : World}
end
section
variable {w : World} {g d s : Nat} {r inc : Int} {F : Nat → Prop} {m : DM}
end
end
section
open Go Go.RowKit Go.Shelf
attribute [local go_sem] Oper.semAt_some
end
section
open Go Go.RowKit
theorem arr5Y (x0 x1 x2 x3 x4 z0 z1 z2 z3 z4 : Value) : setA #[z0, z1, z2, z3, z4] 0 [x0, x1, x2, x3, x4] = #[x0, x1, x2, x3, x4] := by
  rfl
set_option maxHeartbeats 3200000 in
theorem yseal_of {w : World} {g d : Nat} {r inc : Int} {s : ShM} (h : ShAt w g d r inc s) (hL : LaidY w) (ix ar ct : Nat) (har : ar ≤ 1) (k : Nat) (hk : k ≤ 100) (A : Option Addr) (n c : Nat) (l : List Nat) (hb : By w A n c l) (hn : n ≤ 140737488355000) :
    Calls Tryz.prog 188 #[.pointer (some ⟨g, 0, none⟩), .agg #[.int .i64 (ix : Int), .int .i64 (ar : Int), .int .i64 (ct : Int)], .int .i64 (k : Int), .slice A n c] w fun e w' => ∃ A' c', e = .returned (.slice A' (frmY r inc ⟨ix, ar, ct⟩ k l).length c') ∧ By w' A' (frmY r inc ⟨ix, ar, ct⟩ k l).length c' (frmY r inc ⟨ix, ar, ct⟩ k l) ∧ (sealE r 5 ((8 * ar + k : Nat) : Int) (ix : Int) inc (prZL (ct : Int) l).length 2 = 0 → ∀ q, A' = some q → w.heap.size ≤ q.block) ∧ Ext w w' := by
  have hE := (Ext.refl w).alloc (.cells #[.int .i64 (ix : Int), .int .i64 (ar : Int), .int .i64 (ct : Int)] 158)
  have hz := heap_alloc_new w (.cells #[.int .i64 (ix : Int), .int .i64 (ar : Int), .int .i64 (ct : Int)] 158)
  obtain ⟨p, hp⟩ : ∃ p : Nat, 8 * ar + k = p := ⟨_, rfl⟩
  have hf : frmY r inc ⟨ix, ar, ct⟩ k l = sealL r 5 (p : Int) (ix : Int) inc (prZL (ct : Int) l) 2 := by unfold frmY; dsimp only; rw [hp]
  have hpl := yplace_of ix ar ct k har hk
  rw [hp] at hpl
  have HPL := Lib.hid hpl
  rw [hf, hp]
  obtain ⟨L, hLL⟩ : ∃ L, sealL r 5 (p : Int) (ix : Int) inc (prZL (ct : Int) l) 2 = L := ⟨_, rfl⟩
  rw [hLL]
  have HLL := Lib.hid hLL
  have HI5 : Hid ((Tryz.prog.info? 44).map (·.size) = some 5) := Lib.hid (by kernel_rfl)
  have HE := Lib.hid hE
  have HZ := Lib.hid hz
  have H := Lib.hid h
  have HL := Lib.hid hL
  have HB := Lib.hid hb
  have HN := Lib.hid hn
  clear h hL hb hn hf hp hpl hE hz hLL
  have c0 := cell_of_row _ w.heap.size 0 _ _ _ HZ.out
  have c1 := cell_of_row _ w.heap.size 1 _ _ _ HZ.out
  have c2 := cell_of_row _ w.heap.size 2 _ _ _ HZ.out
  go_enter Tryz.func188, Tryz.ntmps188
  go_wp2_with fail
  refine (zprint_any (ct : Int) A n c l _ (HL.out.ext HE.out).f.a.o (HB.out.ext HE.out) HN.out).mono ?_
  rintro e w1 ⟨A1, n1, b1, rfl, hb1, hx⟩
  have HX1 := Lib.hid (HE.out.trans hx)
  have hz1 := (hx.block _ (by simp)).trans HZ.out
  clear c0 c1 c2 HE HZ
  obtain ⟨E, hEE⟩ : ∃ E, sealE r 5 (p : Int) (ix : Int) inc n1 2 = E := ⟨_, rfl⟩
  have HEE := Lib.hid hEE
  have HEQ : Hid (sealE r 5 (p : Int) (ix : Int) inc (prZL (ct : Int) l).length 2 = E) := Lib.hid (by rw [hb1.len]; exact hEE)
  have HXD : Hid (Ext w w1.drew) := Lib.hid (Below.drew HX1.out)
  have HBD : Hid (By w1.drew A1 n1 b1 (prZL (ct : Int) l)) := Lib.hid (hb1.ext (Below.drew (Ext.refl w1)))
  generalize w.heap.size = b at hz1 ⊢
  have HS0 : Hid (∀ V, Ext w1.drew V → (V.cell? ⟨g, 2, none⟩ = some (.int .i64 r) ∧ V.cell? ⟨g, 3, none⟩ = some (.int .i64 inc) ∧ V.cell? ⟨b, 0, none⟩ = some (.int .i64 (ix : Int)) ∧ V.cell? ⟨b, 1, none⟩ = some (.int .i64 (ar : Int)) ∧ V.cell? ⟨b, 2, none⟩ = some (.int .i64 (ct : Int)))) := Lib.hid fun V hV => by
    have hr := ((Ext.trans (Below.drew (Ext.refl w1)) hV).block _ (Array.getElem?_eq_some_iff.1 hz1).1).trans hz1
    have hc := (H.out.ext (HXD.out.trans hV)).cells
    exact ⟨hc.2.2.1, hc.2.2.2.1, cell_of_row V b 0 _ _ _ hr, cell_of_row V b 1 _ _ _ hr, cell_of_row V b 2 _ _ _ hr⟩
  clear hx hz1 hb1 hEE
  go_wp2_with fail
  refine wp_region_held_drew (S := fun w' => w'.cell? ⟨g, 2, none⟩ = some (.int .i64 r) ∧ w'.cell? ⟨g, 3, none⟩ = some (.int .i64 inc) ∧ w'.cell? ⟨b, 0, none⟩ = some (.int .i64 (ix : Int)) ∧ w'.cell? ⟨b, 1, none⟩ = some (.int .i64 (ar : Int)) ∧ w'.cell? ⟨b, 2, none⟩ = some (.int .i64 (ct : Int))) (by kernel_rfl) (HS0.out _ (Ext.refl _)) (fun hHeld => ?_)
  refine tj (i := 0) (oi := ⟨some 21, .move (.tmp 0), 76, "snap.go:277", #[], none⟩) rfl (by kernel_rfl) ?_
  try simp only [Act.put, sT, s0, s1]
  refine tj (i := 1) (oi := ⟨some 22, .nilCheck (.tmp 21), 0, "snap.go:277", #[⟨0, .data⟩], none⟩) rfl (by kernel_rfl) ?_
  try simp only [Act.put, sT, s0, s1]
  refine tj (i := 2) (oi := ⟨some 23, .fieldAddr 163 (.tmp 22) 2, 0, "snap.go:277", #[⟨1, .data⟩], none⟩) rfl (by kernel_rfl) ?_
  try simp only [Act.put, sT, s0, s1]
  refine tj (i := 3) (oi := ⟨some 24, .load 3 (.tmp 23), 3, "snap.go:277", #[⟨2, .data⟩], none⟩) rfl (by kernel_rfl) ?_
  try simp only [Act.put, sT, s0, s1]
  refine tk (i := 4) (oi := ⟨some 25, .load 158 (.tmp 5), 158, "snap.go:277", #[], none⟩) (v := .agg #[.int .i64 (ix : Int), .int .i64 (ar : Int), .int .i64 (ct : Int)]) rfl (by kernel_rfl) (yieldsIf_load_mid (by rfl) 158 (.tmp 5) rfl b 0 rfl [.int .i64 (ix : Int), .int .i64 (ar : Int), .int .i64 (ct : Int)] _ (fun w hw => three_range hw.2.2.1 hw.2.2.2.1 hw.2.2.2.2) Tryz.underlying158 rfl (by kernel_rfl)) ?_
  try simp only [Act.put, sT, s0, s1]
  refine tj (i := 5) (oi := ⟨some 26, .move (.tmp 2), 3, "snap.go:277", #[], none⟩) rfl (by kernel_rfl) ?_
  try simp only [Act.put, sT, s0, s1]
  refine tj (i := 7) (oi := ⟨some 28, .fieldAddr 158 (.tmp 5) 0, 0, "snap.go:277", #[], none⟩) rfl (by kernel_rfl) ?_
  try simp only [Act.put, sT, s0, s1]
  refine tj (i := 8) (oi := ⟨some 29, .load 3 (.tmp 28), 3, "snap.go:277", #[⟨7, .data⟩], none⟩) rfl (by kernel_rfl) ?_
  try simp only [Act.put, sT, s0, s1]
  refine tj (i := 9) (oi := ⟨some 30, .move (.tmp 0), 76, "snap.go:277", #[], none⟩) rfl (by kernel_rfl) ?_
  try simp only [Act.put, sT, s0, s1]
  refine tj (i := 10) (oi := ⟨some 31, .nilCheck (.tmp 30), 0, "snap.go:277", #[⟨9, .data⟩], none⟩) rfl (by kernel_rfl) ?_
  try simp only [Act.put, sT, s0, s1]
  refine tj (i := 11) (oi := ⟨some 32, .fieldAddr 163 (.tmp 31) 3, 0, "snap.go:277", #[⟨10, .data⟩], none⟩) rfl (by kernel_rfl) ?_
  try simp only [Act.put, sT, s0, s1]
  refine tj (i := 12) (oi := ⟨some 33, .load 3 (.tmp 32), 3, "snap.go:277", #[⟨11, .data⟩], none⟩) rfl (by kernel_rfl) ?_
  try simp only [Act.put, sT, s0, s1]
  refine wpAnyH_ready (rs := [6, 14]) (by kernel_rfl) (by simp) ?_
  refine AllReadyH.cons (o := ⟨some 27, .call { callee := .value (.func 189), args := #[.tmp 25, .tmp 26], argTypes := #[158, 3] }, 3, "snap.go:277", #[⟨4, .data⟩, ⟨5, .data⟩], none⟩) rfl (fun K hK => ?_) (AllReadyH.cons (o := ⟨some 11, .alloc 44, 0, "snap.go:277", #[], none⟩) rfl (fun K hK => ?_) AllReadyH.nil)
  · go_simp
    refine (HPL.out _).mono ?_
    rintro e w3 ⟨rfl, hx⟩
    have HXk : Hid (Ext w1.drew w3) := Lib.hid hx
    clear hx
    go_wp2_with fail
    refine hK.out _ _ (HS0.out _ HXk.out) (fun hHeld => ?_)
    clear hK K
    try simp only [Act.put, sT, s0, s1]
    refine tj (i := 13) (oi := ⟨some 34, .build 44 #[(0, .tmp 24), (1, .const (.int .i64 5)), (2, .tmp 27), (3, .tmp 29), (4, .tmp 33)], 44, "snap.go:277", #[⟨3, .data⟩, ⟨6, .data⟩, ⟨8, .data⟩, ⟨12, .data⟩], none⟩) rfl (by kernel_rfl) ?_
    try simp only [Act.put, sT, s0, s1]
    refine wpAnyH_ready (rs := [14]) (by kernel_rfl) (by simp) ?_
    refine AllReadyH.cons (o := ⟨some 11, .alloc 44, 0, "snap.go:277", #[], none⟩) rfl (fun K hK => ?_) AllReadyH.nil
    clear hHeld
    go_simp
    refine hK.out _ _ (HS0.out _ (HXk.out.alloc _)) (fun hHeld => ?_)
    clear hK K
    try simp only [Act.put, sT, s0, s1]
    refine wpAnyH_ready (rs := [15]) (by kernel_rfl) (by simp) ?_
    refine AllReadyH.cons (o := ⟨none, .store 44 (.tmp 11) (.tmp 34), 0, "snap.go:277", #[⟨14, .data⟩, ⟨13, .data⟩, ⟨6, .chain⟩, ⟨0, .phase⟩, ⟨1, .phase⟩, ⟨2, .phase⟩, ⟨3, .phase⟩, ⟨4, .phase⟩, ⟨5, .phase⟩, ⟨6, .phase⟩, ⟨7, .phase⟩, ⟨8, .phase⟩, ⟨9, .phase⟩, ⟨10, .phase⟩, ⟨11, .phase⟩, ⟨12, .phase⟩, ⟨13, .phase⟩, ⟨14, .phase⟩], none⟩) rfl (fun K hK => ?_) AllReadyH.nil
    clear hHeld
    rw [if_pos (by rfl)]
    refine wp_store_mid 44 (.tmp 11) (.tmp 34) rfl w3.heap.size 0 #[.int .i64 r, .int .i64 5, .int .i64 (p : Int), .int .i64 (ix : Int), .int .i64 inc] rfl rfl (there_row (heap_alloc_new w3 _) 0 5 (by simp)) HI5.out (by simp [Value.oneCell']) ?_
    rw [alloc_setCells w3 _ #[.int .i64 r, .int .i64 5, .int .i64 (p : Int), .int .i64 (ix : Int), .int .i64 inc] _ (by rfl)]
    refine hK.out _ _ (HS0.out _ (HXk.out.alloc _)) (fun hHeld => ?_)
    clear hK K
    simp only [Act.put]
    refine wpAnyH_done (by kernel_rfl) ?_ _
    clear hHeld
    have hrow := heap_alloc_new w3 (.cells #[.int .i64 r, .int .i64 5, .int .i64 (p : Int), .int .i64 (ix : Int), .int .i64 inc] 44)
    have hx5 : Ext w1.drew (w3.alloc (.cells #[.int .i64 r, .int .i64 5, .int .i64 (p : Int), .int .i64 (ix : Int), .int .i64 inc] 44)) := HXk.out.alloc _
    generalize w3.alloc (.cells #[.int .i64 r, .int .i64 5, .int .i64 (p : Int), .int .i64 (ix : Int), .int .i64 inc] 44) = V1 at hrow hx5 ⊢
    generalize w3.heap.size = tb at hrow ⊢
    clear HXk
    have HX5 : Hid (Ext w V1) := Lib.hid (HXD.out.trans hx5)
    have HR1 := Lib.hid hrow
    have HR0 := Lib.hid (Ext.refl V1.drew)
    have hS2 : V1.drew.cell? ⟨tb, 0, none⟩ = some (.int .i64 r) ∧ V1.drew.cell? ⟨tb, 1, none⟩ = some (.int .i64 5) ∧ V1.drew.cell? ⟨tb, 2, none⟩ = some (.int .i64 (p : Int)) ∧ V1.drew.cell? ⟨tb, 3, none⟩ = some (.int .i64 (ix : Int)) ∧ V1.drew.cell? ⟨tb, 4, none⟩ = some (.int .i64 inc) := (five_cells hrow).1
    have HWD : Hid (∀ V, Hid (Ext V1.drew V) → Calls Tryz.prog 122 #[.int .i64 5] V fun e w' => e = .returned (.int .i64 2) ∧ Ext V w') := Lib.hid fun V hV => wide_any 5 V (HL.out.ext (Ext.trans (Below.drew HX5.out) hV.out)).f.a.t
    have HSL : Hid (∀ V, Hid (Ext V1.drew V) → Calls Tryz.prog 144 #[.agg #[.int .i64 r, .int .i64 5, .int .i64 (p : Int), .int .i64 (ix : Int), .int .i64 inc], .slice A1 n1 b1, .int .i64 2] V fun e w' => ∃ A' c', e = .returned (.tuple #[.slice A' L.length c', .int .i64 E]) ∧ Hid (By w' A' L.length c' L) ∧ Hid (E = 0 → ∀ q, A' = some q → V.heap.size ≤ q.block) ∧ Ext V w') := Lib.hid fun V hV => by
      refine (seal_own r 5 (p : Int) (ix : Int) inc 2 A1 n1 b1 (prZL (ct : Int) l) V (HL.out.ext (Ext.trans (Below.drew HX5.out) hV.out)).f ((HBD.out.ext (Below.drew hx5)).ext hV.out)).mono fun e w' ⟨A', c', h1, h2, h3, h4⟩ => ?_
      rw [HLL.out] at h1 h2 h3
      rw [HEE.out] at h1 h3
      exact ⟨A', c', h1, Lib.hid h2, Lib.hid (fun h0 q hq => ((h3 h0).lt q.block (by rw [hq]; rfl)).1), h4⟩
    clear hrow
    go_wp2_with fail
    go_region_held3 (fun w' => w'.cell? ⟨tb, 0, none⟩ = some (.int .i64 r) ∧ w'.cell? ⟨tb, 1, none⟩ = some (.int .i64 5) ∧ w'.cell? ⟨tb, 2, none⟩ = some (.int .i64 (p : Int)) ∧ w'.cell? ⟨tb, 3, none⟩ = some (.int .i64 (ix : Int)) ∧ w'.cell? ⟨tb, 4, none⟩ = some (.int .i64 inc))
      (first | with_reducible exact hS2 | exact keepT5 (by assumption) HR1 | go_keep)
      (first
        | (go_at_call 122; ((with_reducible refine (HWD.out _ HR0).mono ?_); rintro e w4 ⟨rfl, hx⟩; have HXk := Lib.hid hx; clear hx))
        | (go_at_call 144; ((with_reducible refine (HSL.out _ HXk).mono ?_); rintro e w5 ⟨A2, c2, rfl, HBY, HFR, hx⟩; have HXk3 : Hid (Ext V1.drew w5) := Lib.hid (HXk.out.trans hx); clear hx)))
    go_wp2_with fail
    go_ret
    exact ⟨A2, c2, rfl, HBY.out, fun h0 q hq => Nat.le_trans (Ext.trans (Below.drew HX5.out) HXk.out).size (HFR.out (HEQ.out.symm.trans h0) q hq), Ext.trans (Below.drew HX5.out) HXk3.out⟩
  · go_simp
    refine hK.out _ _ (HS0.out _ ((Ext.refl w1.drew).alloc _)) (fun hHeld => ?_)
    clear hK K
    try simp only [Act.put, sT, s0, s1]
    refine wpAnyH_ready (rs := [6]) (by kernel_rfl) (by simp) ?_
    refine AllReadyH.cons (o := ⟨some 27, .call { callee := .value (.func 189), args := #[.tmp 25, .tmp 26], argTypes := #[158, 3] }, 3, "snap.go:277", #[⟨4, .data⟩, ⟨5, .data⟩], none⟩) rfl (fun K hK => ?_) AllReadyH.nil
    clear hHeld
    go_simp
    refine (HPL.out _).mono ?_
    rintro e w3 ⟨rfl, hx⟩
    have HXk : Hid (Ext w1.drew w3) := Lib.hid ((hid_ad _).out.trans hx)
    have HN2 := Lib.hid (new_after2 hx)
    clear hx
    go_wp2_with fail
    refine hK.out _ _ (HS0.out _ HXk.out) (fun hHeld => ?_)
    clear hK K
    try simp only [Act.put, sT, s0, s1]
    refine tj (i := 13) (oi := ⟨some 34, .build 44 #[(0, .tmp 24), (1, .const (.int .i64 5)), (2, .tmp 27), (3, .tmp 29), (4, .tmp 33)], 44, "snap.go:277", #[⟨3, .data⟩, ⟨6, .data⟩, ⟨8, .data⟩, ⟨12, .data⟩], none⟩) rfl (by kernel_rfl) ?_
    try simp only [Act.put, sT, s0, s1]
    refine wpAnyH_ready (rs := [15]) (by kernel_rfl) (by simp) ?_
    refine AllReadyH.cons (o := ⟨none, .store 44 (.tmp 11) (.tmp 34), 0, "snap.go:277", #[⟨14, .data⟩, ⟨13, .data⟩, ⟨6, .chain⟩, ⟨0, .phase⟩, ⟨1, .phase⟩, ⟨2, .phase⟩, ⟨3, .phase⟩, ⟨4, .phase⟩, ⟨5, .phase⟩, ⟨6, .phase⟩, ⟨7, .phase⟩, ⟨8, .phase⟩, ⟨9, .phase⟩, ⟨10, .phase⟩, ⟨11, .phase⟩, ⟨12, .phase⟩, ⟨13, .phase⟩, ⟨14, .phase⟩], none⟩) rfl (fun K hK => ?_) AllReadyH.nil
    clear hHeld
    rw [if_pos (by rfl)]
    refine wp_store_mid 44 (.tmp 11) (.tmp 34) rfl w1.heap.size 0 #[.int .i64 r, .int .i64 5, .int .i64 (p : Int), .int .i64 (ix : Int), .int .i64 inc] rfl rfl (there_row HN2.out 0 5 (by simp)) HI5.out (by simp [Value.oneCell']) ?_
    refine hK.out _ _ (HS0.out _ (ext_setCells HXk.out (Nat.le_refl _) 0 _)) (fun hHeld => ?_)
    clear hK K
    simp only [Act.put]
    refine wpAnyH_done (by kernel_rfl) ?_ _
    clear hHeld
    have hrow := row_setCells HN2.out 0 [.int .i64 r, .int .i64 5, .int .i64 (p : Int), .int .i64 (ix : Int), .int .i64 inc]
    rw [arr5Y] at hrow
    have hx5 := ext_setCells HXk.out (g := w1.heap.size) (Nat.le_refl _) 0 [.int .i64 r, .int .i64 5, .int .i64 (p : Int), .int .i64 (ix : Int), .int .i64 inc]
    generalize hV1 : w3.setCells w1.heap.size 0 [.int .i64 r, .int .i64 5, .int .i64 (p : Int), .int .i64 (ix : Int), .int .i64 inc] = V1 at hrow hx5 ⊢
    clear hV1 HN2 HXk
    generalize w1.heap.size = tb at hrow ⊢
    have HX5 : Hid (Ext w V1) := Lib.hid (HXD.out.trans hx5)
    have HR1 := Lib.hid hrow
    have HR0 := Lib.hid (Ext.refl V1.drew)
    have hS2 : V1.drew.cell? ⟨tb, 0, none⟩ = some (.int .i64 r) ∧ V1.drew.cell? ⟨tb, 1, none⟩ = some (.int .i64 5) ∧ V1.drew.cell? ⟨tb, 2, none⟩ = some (.int .i64 (p : Int)) ∧ V1.drew.cell? ⟨tb, 3, none⟩ = some (.int .i64 (ix : Int)) ∧ V1.drew.cell? ⟨tb, 4, none⟩ = some (.int .i64 inc) := (five_cells hrow).1
    have HWD : Hid (∀ V, Hid (Ext V1.drew V) → Calls Tryz.prog 122 #[.int .i64 5] V fun e w' => e = .returned (.int .i64 2) ∧ Ext V w') := Lib.hid fun V hV => wide_any 5 V (HL.out.ext (Ext.trans (Below.drew HX5.out) hV.out)).f.a.t
    have HSL : Hid (∀ V, Hid (Ext V1.drew V) → Calls Tryz.prog 144 #[.agg #[.int .i64 r, .int .i64 5, .int .i64 (p : Int), .int .i64 (ix : Int), .int .i64 inc], .slice A1 n1 b1, .int .i64 2] V fun e w' => ∃ A' c', e = .returned (.tuple #[.slice A' L.length c', .int .i64 E]) ∧ Hid (By w' A' L.length c' L) ∧ Hid (E = 0 → ∀ q, A' = some q → V.heap.size ≤ q.block) ∧ Ext V w') := Lib.hid fun V hV => by
      refine (seal_own r 5 (p : Int) (ix : Int) inc 2 A1 n1 b1 (prZL (ct : Int) l) V (HL.out.ext (Ext.trans (Below.drew HX5.out) hV.out)).f ((HBD.out.ext (Below.drew hx5)).ext hV.out)).mono fun e w' ⟨A', c', h1, h2, h3, h4⟩ => ?_
      rw [HLL.out] at h1 h2 h3
      rw [HEE.out] at h1 h3
      exact ⟨A', c', h1, Lib.hid h2, Lib.hid (fun h0 q hq => ((h3 h0).lt q.block (by rw [hq]; rfl)).1), h4⟩
    clear hrow
    go_wp2_with fail
    go_region_held3 (fun w' => w'.cell? ⟨tb, 0, none⟩ = some (.int .i64 r) ∧ w'.cell? ⟨tb, 1, none⟩ = some (.int .i64 5) ∧ w'.cell? ⟨tb, 2, none⟩ = some (.int .i64 (p : Int)) ∧ w'.cell? ⟨tb, 3, none⟩ = some (.int .i64 (ix : Int)) ∧ w'.cell? ⟨tb, 4, none⟩ = some (.int .i64 inc))
      (first | with_reducible exact hS2 | exact keepT5 (by assumption) HR1 | go_keep)
      (first
        | (go_at_call 122; ((with_reducible refine (HWD.out _ HR0).mono ?_); rintro e w4 ⟨rfl, hx⟩; have HXk := Lib.hid hx; clear hx))
        | (go_at_call 144; ((with_reducible refine (HSL.out _ HXk).mono ?_); rintro e w5 ⟨A2, c2, rfl, HBY, HFR, hx⟩; have HXk3 : Hid (Ext V1.drew w5) := Lib.hid (HXk.out.trans hx); clear hx)))
    go_wp2_with fail
    go_ret
    exact ⟨A2, c2, rfl, HBY.out, fun h0 q hq => Nat.le_trans (Ext.trans (Below.drew HX5.out) HXk.out).size (HFR.out (HEQ.out.symm.trans h0) q hq), Ext.trans (Below.drew HX5.out) HXk3.out⟩
end
section
open Go Go.RowKit
def lsOf (L : List Lst) : List (List Nat) := L.map fun a => a.l
end
section
open Go Go.RowKit
theorem wrs_stop {X : Int × DM} {S : Int} {L : List Nat} {n : Nat} : ∀ {W : Nat}, n ≤ W → (wrsE X S L n).1 ≠ 0 → wrsE X S L W = wrsE X S L n
  | 0, h, _ => by
    obtain rfl : n = 0 := by omega
    rfl
  | W + 1, h, he => by
    by_cases hn : n = W + 1
    · rw [hn]
    · have ih := wrs_stop (X := X) (S := S) (L := L) (n := n) (W := W) (by omega) he
      show unE (wrsE X S L W) _ = _
      rw [ih]
      exact if_neg he
theorem wrsY_append (r inc : Int) (s : ShM) : ∀ (l l' : List (List Nat)) (x : Int × DM) (k : Nat), wrsY r inc s x k (l ++ l') = wrsY r inc s (wrsY r inc s x k l) (k + l.length) l'
  | [], l', x, k => rfl
  | c :: l, l', x, k => by
    show wrsY r inc s _ (k + 1) (l ++ l') = _
    rw [wrsY_append r inc s l l' _ (k + 1), List.length_cons, show k + 1 + l.length = k + (l.length + 1) from by omega]
    rfl
theorem wrsY_stop {r inc : Int} {s : ShM} {x : Int × DM} {k j : Nat} {l : List (List Nat)} (h : (wrsY r inc s x k (l.take j)).1 ≠ 0) : wrsY r inc s x k l = wrsY r inc s x k (l.take j) := by
  have e : wrsY r inc s x k l = wrsY r inc s x k (l.take j ++ l.drop j) := by rw [List.take_append_drop]
  rw [e, wrsY_append]
  obtain ⟨X, hX⟩ : ∃ X, wrsY r inc s x k (l.take j) = X := ⟨_, rfl⟩
  rw [hX] at h ⊢
  obtain ⟨E, m'⟩ := X
  exact wrsY_err r inc s h _ _
theorem wrsY_waits {r inc : Int} {s : ShM} : ∀ (l : List (List Nat)) (x : Int × DM) (k : Nat), (wrsY r inc s x k l).2.waits.length ≤ x.2.waits.length + 2 * l.length
  | [], x, k => by show x.2.waits.length ≤ _; omega
  | c :: l, x, k => by
    show (wrsY r inc s _ (k + 1) l).2.waits.length ≤ _
    obtain ⟨E, m⟩ := x
    have h1 := wrsY_waits (r := r) (inc := inc) (s := s) l (wrsE (E, m) (firstS 5 ((8 * s.ar + k : Nat) : Int)) (frmY r inc s k c) 2) (k + 1)
    have h2 := wrs_waits (m := m) (E := E) (S := firstS 5 ((8 * s.ar + k : Nat) : Int)) (L := frmY r inc s k c) 2
    rw [List.length_cons]
    dsimp only
    omega
structure WY (w0 : World) (d : Nat) (F F' : Nat → Prop) (w : World) (m : DM) : Prop where
  disk : PDisk w d F' m
  sub : ∀ k, k < w0.heap.size → F' k → F k
  mod : Mod F w0 w
section
variable {w0 w w' : World} {d : Nat} {F F' : Nat → Prop} {m m' : DM}
theorem WY.start (h : PDisk w d F m) : WY w d F F w m := ⟨h, fun _ _ hf => hf, Mod.refl _ _⟩
theorem WY.ext (h : WY w0 d F F' w m) (hx : Ext w w') : WY w0 d F F' w' m := ⟨h.disk.ext hx, h.sub, h.mod.ext hx⟩
theorem WY.step (h : WY w0 d F F' w m) (hd : PDisk w' d (grow F' w w') m') (hm : Mod F' w w') : WY w0 d F (grow F' w w') w' m' :=
  ⟨hd, fun k hk hf => hf.elim (h.sub k hk) (fun hg => absurd hg.1 (by have := h.mod.size; omega)), h.mod.trans hm fun i hi => by
    by_cases hlt : i < w0.heap.size
    · exact .inl (h.sub i hlt hi)
    · exact .inr (by omega)⟩
theorem WY.base {w1 : World} (h : WY w1 d F F' w m) (hx : Ext w0 w1) : WY w0 d F F' w m :=
  ⟨h.disk, fun k hk hf => h.sub k (Nat.lt_of_lt_of_le hk hx.size) hf, (Mod.of_ext hx).trans h.mod fun _ hi => .inl hi⟩
theorem grow_not {k : Nat} (h : ¬ F' k) (hk : k < w.heap.size) : ¬ grow F' w w' k := fun hg => hg.elim h (fun hh => absurd hh.1 (by omega))
theorem WY.not_ (h : WY w0 d F F' w m) {k : Nat} (hk : k < w0.heap.size) (hF : ¬ F k) : ¬ F' k := fun hf => hF (h.sub k hk hf)
end
theorem Lsts.modY {w w' : World} {F : Nat → Prop} {A : Option Addr} {n c : Nat} {l : List Lst} (h : Lsts w w.heap.size A n c l) (hm : Mod F w w') (hA : Off F A) (hO : ∀ a ∈ l, Off F a.A) {j : Nat} (hj : j < n) :
    ∃ g o a, A = some ⟨g, o, none⟩ ∧ l[j]? = some a ∧ By w' a.A a.n a.c a.l ∧ w'.cell? ⟨g, o + j, none⟩ = some (.slice a.A a.n a.c) := by
  obtain ⟨g, o, a, e, hg, ha, hb, hc⟩ := h.at_ hj
  exact ⟨g, o, a, e, ha, By.mod hb hm (hO a (List.mem_of_getElem? ha)), mod_cell hm (hA _ e) hc⟩
end
section
open Go Go.RowKit
theorem lsts_own {w : World} {b b' : Nat} {v v' : Value} {L : List Lst} (hrow : w.ownsRow b 45 1 v L.length (L.map Lst.val)) (hok : LsOk w b' v' L) : ∃ A c, v = .slice A L.length c ∧ Lsts w w.heap.size A L.length c L := by
  obtain ⟨A, c, rfl, h1, h2⟩ := own_form hrow
  refine ⟨A, c, rfl, rfl, h1, h2, fun a ha => (hok a ha).1.1, fun hn => ?_, fun hA => ?_⟩
  · rcases hrow.2 with ⟨_, h0⟩ | ⟨g, cap, cur, hv, hb, hg, _⟩
    · omega
    · injection hv with hA hN hC
      subst hA
      refine ⟨g, 0, rfl, (Array.getElem?_eq_some_iff.1 hg).1, fun j a ha => ?_⟩
      have hj : j < L.length := (List.getElem?_eq_some_iff.1 ha).1
      rw [Nat.zero_add, hrow.cellAt j (by omega), List.getElem?_map, ha]
      rfl
  · rcases hrow.2 with ⟨hv, _⟩ | ⟨g, cap, cur, hv, _⟩
    · injection hv
    · injection hv with hA' _ _
      rw [hA] at hA'
      cases hA'
theorem Lsts.ext {w w' : World} {A : Option Addr} {n c : Nat} {l : List Lst} (h : Lsts w w.heap.size A n c l) (k : Ext w w') : Lsts w' w'.heap.size A n c l := (h.below k).more k.size
end
end Go.Proofs.YtgcinagkbdcgiaaGreatDoor
