/-
  Ballots in plain words: which is less, the greatest of a list, which may be, the next one of a replica.
-/
import Derived.Test.YtinflpheogglhaaP00
import Derived.Test.YtinflpheogglhaaP01
import Derived.Laws.AppendOwnNone
import Derived.Laws.AppendOwn
import Derived.Test.YtinflpheogglhaaProg
import Derived.WalkKit
import Derived.WalkSpells
import Derived.BigQuiet
import Derived.OwnWalk
import Derived.Lib.Hide
import Derived.Laws.EntriesVeiled
import Derived.Deep.RegionHeld3
namespace Go.Proofs.Ytinflpheogglhaa
set_option maxRecDepth 100000
section
open Go Go.RowKit
def ltB (a b : Bal) : Bool := decide (a.x < b.x ∨ a.x = b.x ∧ a.y < b.y)
theorem ltB_iff {a b : Bal} : ltB a b = true ↔ a.x < b.x ∨ a.x = b.x ∧ a.y < b.y := decide_eq_true_iff
theorem ltB_not {a b : Bal} : ltB a b = false ↔ ¬ (a.x < b.x ∨ a.x = b.x ∧ a.y < b.y) := decide_eq_false_iff_not
theorem ltB_self (a : Bal) : ltB a a = false := ltB_not.2 (by omega)
theorem ltB_eq {a b : Bal} (h1 : ltB a b = false) (h2 : ltB b a = false) : a = b := by
  rw [ltB_not] at h1 h2
  obtain ⟨x, y⟩ := a
  obtain ⟨x', y'⟩ := b
  dsimp only at h1 h2
  obtain rfl : x = x' := by omega
  obtain rfl : y = y' := by omega
  rfl
theorem ltB_le {a b c : Bal} (h1 : ltB a b = false) (h2 : ltB b c = false) : ltB a c = false := by
  rw [ltB_not] at *
  omega
def upB (g : Bal) (l : List Bal) : Bal := l.foldl (fun g x => if ltB g x then x else g) g
def maxB : List Bal → Bal
  | [] => ⟨0, 0⟩
  | a :: l => upB a l
theorem upB_cons (g a : Bal) (l : List Bal) : upB g (a :: l) = upB (if ltB g a then a else g) l := rfl
theorem upB_skip {g : Bal} : ∀ {l : List Bal} {i : Nat}, (∀ (j : Nat) (b : Bal), j < i → l[j]? = some b → ltB g b = false) → upB g l = upB g (l.drop i)
  | l, 0, _ => by rw [List.drop_zero]
  | [], i + 1, _ => by rw [List.drop_nil]
  | a :: l, i + 1, h => by
    rw [upB_cons, h 0 a (by omega) rfl, if_neg (by decide), List.drop_succ_cons]
    exact upB_skip (l := l) (i := i) fun j b hj hb => h (j + 1) b (by omega) hb
theorem upB_none {g : Bal} {l : List Bal} (h : ∀ (j : Nat) (b : Bal), l[j]? = some b → ltB g b = false) : upB g l = g := by
  rw [upB_skip (l := l) (i := l.length) (fun j b _ hb => h j b hb), List.drop_length]
  rfl
theorem upB_take {g b : Bal} {l : List Bal} {i : Nat} (h : ∀ (j : Nat) (b : Bal), j < i → l[j]? = some b → ltB g b = false) (hb : l[i]? = some b) (hl : ltB g b = true) : upB g l = upB b (l.drop (i + 1)) := by
  rw [upB_skip (l := l) (i := i) h, List.drop_eq_getElem_cons (List.getElem?_eq_some_iff.1 hb).1, (List.getElem?_eq_some_iff.1 hb).2, upB_cons, if_pos hl]
theorem upB_ge : ∀ (l : List Bal) (g : Bal), ltB (upB g l) g = false ∧ ∀ x ∈ l, ltB (upB g l) x = false
  | [], g => ⟨ltB_self g, fun x h => by cases h⟩
  | a :: l, g => by
    obtain ⟨h1, h2⟩ := upB_ge l (if ltB g a then a else g)
    rw [upB_cons]
    cases hl : ltB g a with
    | true =>
      rw [hl, if_pos rfl] at h1 h2
      rw [if_pos rfl]
      have hg : ltB a g = false := by rw [ltB_iff] at hl; rw [ltB_not]; omega
      exact ⟨ltB_le h1 hg, fun x hx => (List.mem_cons.1 hx).elim (fun e => by rw [e]; exact h1) (h2 x)⟩
    | false =>
      rw [hl, if_neg (by decide)] at h1 h2
      rw [if_neg (by decide)]
      exact ⟨h1, fun x hx => (List.mem_cons.1 hx).elim (fun e => by rw [e]; exact ltB_le h1 hl) (h2 x)⟩
theorem upB_mem : ∀ (l : List Bal) (g : Bal), upB g l = g ∨ upB g l ∈ l
  | [], g => .inl rfl
  | a :: l, g => by
    rw [upB_cons]
    cases hl : ltB g a with
    | true =>
      rw [if_pos rfl]
      rcases upB_mem l a with h | h
      · exact .inr (by rw [h]; exact List.mem_cons_self ..)
      · exact .inr (List.mem_cons_of_mem _ h)
    | false =>
      rw [if_neg (by decide)]
      rcases upB_mem l g with h | h
      · exact .inl h
      · exact .inr (List.mem_cons_of_mem _ h)
theorem maxB_ge {l : List Bal} {x : Bal} (h : x ∈ l) : ltB (maxB l) x = false := by
  cases l with
  | nil => cases h
  | cons a l => exact (List.mem_cons.1 h).elim (fun e => by rw [e]; exact (upB_ge l a).1) ((upB_ge l a).2 x)
theorem maxB_mem {l : List Bal} (h : l ≠ []) : maxB l ∈ l := by
  cases l with
  | nil => exact absurd rfl h
  | cons a l =>
    rcases upB_mem l a with h | h
    · show upB a l ∈ _
      rw [h]
      exact List.mem_cons_self ..
    · exact List.mem_cons_of_mem _ h
def crowdB (n : Int) : Bool := decide (n = 3 ∨ n = 5 ∨ n = 7)
theorem crowdB_iff {n : Int} : crowdB n = true ↔ n = 3 ∨ n = 5 ∨ n = 7 := decide_eq_true_iff
def mayB_ (b : Bal) (n : Int) : Bool := crowdB n && (decide (b.x = 0 ∧ b.y = 0) || decide (1 ≤ b.x ∧ b.x ≤ 1099511627776 ∧ 0 ≤ b.y ∧ b.y < n))
theorem mayB_iff {b : Bal} {n : Int} : mayB_ b n = true ↔ (n = 3 ∨ n = 5 ∨ n = 7) ∧ ((b.x = 0 ∧ b.y = 0) ∨ (1 ≤ b.x ∧ b.x ≤ 1099511627776 ∧ 0 ≤ b.y ∧ b.y < n)) := by
  unfold mayB_
  rw [Bool.and_eq_true, Bool.or_eq_true, crowdB_iff, decide_eq_true_iff, decide_eq_true_iff]
def okB (b : Bal) (r n : Int) : Bool := mayB_ b n && decide (0 ≤ r ∧ r < n)
theorem okB_iff {b : Bal} {r n : Int} : okB b r n = true ↔ ((n = 3 ∨ n = 5 ∨ n = 7) ∧ ((b.x = 0 ∧ b.y = 0) ∨ (1 ≤ b.x ∧ b.x ≤ 1099511627776 ∧ 0 ≤ b.y ∧ b.y < n))) ∧ 0 ≤ r ∧ r < n := by
  unfold okB
  rw [Bool.and_eq_true, mayB_iff, decide_eq_true_iff]
def roundB (b : Bal) (r : Int) : Int := if b.x = 0 then 1 else if b.y < r then b.x else b.x + 1
def nextB (b : Bal) (r n : Int) : Bal := if okB b r n then (if roundB b r ≤ 1099511627776 then ⟨roundB b r, r⟩ else ⟨0, 0⟩) else ⟨0, 0⟩
def errB (b : Bal) (r n : Int) : Int := if okB b r n then (if roundB b r ≤ 1099511627776 then 0 else 4) else 2
end
section
open Go Go.RowKit
structure Rpt where
  ix : Int := 0
  st : Nat := 0
  x : Int := 0
  y : Int := 0
  e : Ent := {}
instance : Inhabited Rpt := ⟨{}⟩
def rptC (x : Rpt) : List Value := [.int .i64 x.ix, .int .u8 (x.st : Int), .int .i64 x.x, .int .i64 x.y, .int .u8 (x.e.k : Int), .int .i64 x.e.cl, .int .i64 x.e.sq, .int .u8 (x.e.ok : Int), .string x.e.key, .string x.e.old, .string x.e.val]
abbrev rA (x : Rpt) : Value := .agg #[.int .i64 x.ix, .int .u8 (x.st : Int), .int .i64 x.x, .int .i64 x.y, .int .u8 (x.e.k : Int), .int .i64 x.e.cl, .int .i64 x.e.sq, .int .u8 (x.e.ok : Int), .string x.e.key, .string x.e.old, .string x.e.val]
def RC (w : World) (g a : Nat) (r : Rpt) : Prop := w.cell? ⟨g, a, none⟩ = some (.int .i64 r.ix) ∧ w.cell? ⟨g, a + 1, none⟩ = some (.int .u8 (r.st : Int)) ∧ w.cell? ⟨g, a + 2, none⟩ = some (.int .i64 r.x) ∧ w.cell? ⟨g, a + 3, none⟩ = some (.int .i64 r.y) ∧ w.cell? ⟨g, a + 4, none⟩ = some (.int .u8 (r.e.k : Int)) ∧ w.cell? ⟨g, a + 5, none⟩ = some (.int .i64 r.e.cl) ∧ w.cell? ⟨g, a + 6, none⟩ = some (.int .i64 r.e.sq) ∧ w.cell? ⟨g, a + 7, none⟩ = some (.int .u8 (r.e.ok : Int)) ∧ w.cell? ⟨g, a + 8, none⟩ = some (.string r.e.key) ∧ w.cell? ⟨g, a + 9, none⟩ = some (.string r.e.old) ∧ w.cell? ⟨g, a + 10, none⟩ = some (.string r.e.val)
theorem RC.of {w : World} {g a : Nat} {r : Rpt} (h : ∀ k v, (rptC r)[k]? = some v → w.cell? ⟨g, a + k, none⟩ = some v) : RC w g a r := ⟨h 0 _ rfl, h 1 _ rfl, h 2 _ rfl, h 3 _ rfl, h 4 _ rfl, h 5 _ rfl, h 6 _ rfl, h 7 _ rfl, h 8 _ rfl, h 9 _ rfl, h 10 _ rfl⟩
def RC0 (w : World) (b : Nat) (r : Rpt) : Prop := w.cell? ⟨b, 0, none⟩ = some (.int .i64 r.ix) ∧ w.cell? ⟨b, 1, none⟩ = some (.int .u8 (r.st : Int)) ∧ w.cell? ⟨b, 2, none⟩ = some (.int .i64 r.x) ∧ w.cell? ⟨b, 3, none⟩ = some (.int .i64 r.y) ∧ w.cell? ⟨b, 4, none⟩ = some (.int .u8 (r.e.k : Int)) ∧ w.cell? ⟨b, 5, none⟩ = some (.int .i64 r.e.cl) ∧ w.cell? ⟨b, 6, none⟩ = some (.int .i64 r.e.sq) ∧ w.cell? ⟨b, 7, none⟩ = some (.int .u8 (r.e.ok : Int)) ∧ w.cell? ⟨b, 8, none⟩ = some (.string r.e.key) ∧ w.cell? ⟨b, 9, none⟩ = some (.string r.e.old) ∧ w.cell? ⟨b, 10, none⟩ = some (.string r.e.val)
theorem RC0.of {w : World} {b : Nat} {r : Rpt} {t : TypeId} {fr : Nat × Nat} (h : w.heap[b]? = some (.cells (rptC r).toArray t fr)) : RC0 w b r := ⟨cell_of_row w b 0 _ _ _ h, cell_of_row w b 1 _ _ _ h, cell_of_row w b 2 _ _ _ h, cell_of_row w b 3 _ _ _ h, cell_of_row w b 4 _ _ _ h, cell_of_row w b 5 _ _ _ h, cell_of_row w b 6 _ _ _ h, cell_of_row w b 7 _ _ _ h, cell_of_row w b 8 _ _ _ h, cell_of_row w b 9 _ _ _ h, cell_of_row w b 10 _ _ _ h⟩
theorem rptC_one (r : Rpt) : ∀ u ∈ rptC r, u.oneCell' = true := by
  intro u hu
  simp only [rptC, List.mem_cons, List.not_mem_nil, or_false] at hu
  rcases hu with rfl | rfl | rfl | rfl | rfl | rfl | rfl | rfl | rfl | rfl | rfl <;> rfl
end
section
open Go Go.RowKit
def Rpt.b (r : Rpt) : Bal := ⟨r.x, r.y⟩
def eqB (a b : Bal) : Bool := decide (a.x = b.x ∧ a.y = b.y)
theorem eqB_iff {a b : Bal} : eqB a b = true ↔ a = b := by
  unfold eqB
  rw [decide_eq_true_iff]
  obtain ⟨x, y⟩ := a
  obtain ⟨x', y'⟩ := b
  exact ⟨fun ⟨h1, h2⟩ => by dsimp only at h1 h2; rw [h1, h2], fun h => by injection h with h1 h2; exact ⟨h1, h2⟩⟩
def upR (o : Option Rpt) (r : Rpt) : Option Rpt := if r.st = 2 then (match o with | none => some r | some q => if ltB q.b r.b then some r else some q) else o
def bestR (l : List Rpt) : Option Rpt := l.foldl upR none
theorem upR_no (o : Option Rpt) {r : Rpt} (h : r.st ≠ 2) : upR o r = o := if_neg h
theorem upR_none {r : Rpt} (h : r.st = 2) : upR none r = some r := if_pos h
theorem upR_some {q r : Rpt} (h : r.st = 2) : upR (some q) r = if ltB q.b r.b then some r else some q := if_pos h
theorem fold_best : ∀ (l : List Rpt) (o : Option Rpt), match l.foldl upR o with
    | none => o = none ∧ ∀ r ∈ l, r.st ≠ 2
    | some q => (o = some q ∨ (q ∈ l ∧ q.st = 2)) ∧ (∀ r ∈ l, r.st = 2 → ltB q.b r.b = false) ∧ ∀ p, o = some p → ltB q.b p.b = false
  | [], o => by
    cases o with
    | none => exact ⟨rfl, fun r h => by cases h⟩
    | some q =>
      refine ⟨.inl rfl, fun r h => (by cases h), fun p hp => ?_⟩
      injection hp with hp
      rw [hp]
      exact ltB_self _
  | a :: l, o => by
    rw [List.foldl_cons]
    have ih := fold_best l (upR o a)
    generalize hR : l.foldl upR (upR o a) = R at ih
    by_cases ha : a.st = 2
    · cases o with
      | none =>
        rw [upR_none ha] at ih
        cases R with
        | none => cases ih.1
        | some q =>
          obtain ⟨h1, h2, h3⟩ := ih
          refine ⟨.inr ?_, fun r hr h => ?_, fun p hp => by cases hp⟩
          · rcases h1 with h1 | h1
            · injection h1 with h1
              rw [← h1]
              exact ⟨List.mem_cons_self .., ha⟩
            · exact ⟨List.mem_cons_of_mem _ h1.1, h1.2⟩
          · rcases List.mem_cons.1 hr with rfl | hr
            · exact h3 _ rfl
            · exact h2 r hr h
      | some p =>
        rw [upR_some ha] at ih
        cases R with
        | none =>
          cases hl : ltB p.b a.b <;> rw [hl] at ih <;> cases ih.1
        | some q =>
          obtain ⟨h1, h2, h3⟩ := ih
          cases hl : ltB p.b a.b with
          | true =>
            rw [hl, if_pos rfl] at h1 h3
            have h4 := h3 a rfl
            refine ⟨.inr ?_, fun r hr h => ?_, fun p' hp => ?_⟩
            · rcases h1 with h1 | h1
              · injection h1 with h1
                rw [← h1]
                exact ⟨List.mem_cons_self .., ha⟩
              · exact ⟨List.mem_cons_of_mem _ h1.1, h1.2⟩
            · rcases List.mem_cons.1 hr with rfl | hr
              · exact h4
              · exact h2 r hr h
            · injection hp with hp
              rw [← hp]
              refine ltB_le h4 ?_
              rw [ltB_iff] at hl
              rw [ltB_not]
              omega
          | false =>
            rw [hl, if_neg (by decide)] at h1 h3
            have h4 := h3 p rfl
            refine ⟨?_, fun r hr h => ?_, fun p' hp => ?_⟩
            · rcases h1 with h1 | h1
              · exact .inl h1
              · exact .inr ⟨List.mem_cons_of_mem _ h1.1, h1.2⟩
            · rcases List.mem_cons.1 hr with rfl | hr
              · exact ltB_le h4 hl
              · exact h2 r hr h
            · injection hp with hp
              rw [← hp]
              exact h4
    · rw [upR_no o ha] at ih
      cases R with
      | none =>
        refine ⟨ih.1, fun r hr => ?_⟩
        rcases List.mem_cons.1 hr with rfl | hr
        · exact ha
        · exact ih.2 r hr
      | some q =>
        obtain ⟨h1, h2, h3⟩ := ih
        refine ⟨?_, fun r hr h => ?_, h3⟩
        · rcases h1 with h1 | h1
          · exact .inl h1
          · exact .inr ⟨List.mem_cons_of_mem _ h1.1, h1.2⟩
        · rcases List.mem_cons.1 hr with rfl | hr
          · exact absurd h ha
          · exact h2 r hr h
theorem bestR_none {l : List Rpt} (h : bestR l = none) : ∀ r ∈ l, r.st ≠ 2 := by
  have := fold_best l none
  rw [show l.foldl upR none = none from h] at this
  exact this.2
theorem bestR_some {l : List Rpt} {q : Rpt} (h : bestR l = some q) : q ∈ l ∧ q.st = 2 ∧ ∀ r ∈ l, r.st = 2 → ltB q.b r.b = false := by
  have := fold_best l none
  rw [show l.foldl upR none = some q from h] at this
  rcases this.1 with h1 | h1
  · cases h1
  · exact ⟨h1.1, h1.2, this.2.1⟩
theorem fold_stay {r : Rpt} : ∀ l : List Rpt, (∀ x ∈ l, x.st = 2 → ltB r.b x.b = false) → l.foldl upR (some r) = some r
  | [], _ => rfl
  | a :: l, h => by
    rw [List.foldl_cons]
    have e : upR (some r) a = some r := by
      by_cases ha : a.st = 2
      · rw [upR_some ha, h a (List.mem_cons_self ..) ha, if_neg (by decide)]
      · exact upR_no _ ha
    rw [e]
    exact fold_stay l fun x hx => h x (List.mem_cons_of_mem _ hx)
theorem bestR_is {l1 l2 : List Rpt} {r : Rpt} (hr : r.st = 2) (h1 : ∀ x ∈ l1, x.st = 2 → ltB x.b r.b = true) (h2 : ∀ x ∈ l2, x.st = 2 → ltB r.b x.b = false) : bestR (l1 ++ r :: l2) = some r := by
  have e : upR (bestR l1) r = some r := by
    cases hb : bestR l1 with
    | none => exact upR_none hr
    | some q =>
      obtain ⟨m, s, _⟩ := bestR_some hb
      rw [upR_some hr, h1 q m s, if_pos rfl]
  show (l1 ++ r :: l2).foldl upR none = _
  rw [List.foldl_append, List.foldl_cons, show l1.foldl upR none = bestR l1 from rfl, e]
  exact fold_stay l2 h2
theorem fold_filter {p : Rpt → Bool} : ∀ (l : List Rpt) (o : Option Rpt), (∀ r ∈ l, r.st = 2 → p r = true) → (l.filter p).foldl upR o = l.foldl upR o
  | [], _, _ => rfl
  | a :: l, o, h => by
    have ih := fun o => fold_filter l o fun r hr => h r (List.mem_cons_of_mem _ hr)
    cases ha : p a with
    | true => rw [List.filter_cons_of_pos ha, List.foldl_cons, List.foldl_cons, ih]
    | false =>
      rw [List.filter_cons_of_neg (by rw [ha]; decide), List.foldl_cons, ih, upR_no o fun e => by rw [h a (List.mem_cons_self ..) e] at ha; cases ha]
theorem bestR_filter {p : Rpt → Bool} {l : List Rpt} (h : ∀ r ∈ l, r.st = 2 → p r = true) : bestR (l.filter p) = bestR l := fold_filter l none h
def lostGe (l : List Rpt) (b : Bal) : Nat := l.countP fun k => decide (k.st = 3) && !ltB k.b b
def openR (o : Option Rpt) (r : Rpt) : Bool := match o with
  | none => true
  | some q => ltB q.b r.b
def undR (lim many : Nat) (l : List Rpt) : Bool := decide (lim ≤ many) || l.any fun r => decide (r.st = 3) && openR (bestR l) r && decide (lim ≤ many + lostGe l r.b)
theorem undR_iff {lim many : Nat} {l : List Rpt} : undR lim many l = true ↔ lim ≤ many ∨ ∃ r ∈ l, r.st = 3 ∧ openR (bestR l) r = true ∧ lim ≤ many + lostGe l r.b := by
  unfold undR
  simp only [Bool.or_eq_true, decide_eq_true_iff, List.any_eq_true, Bool.and_eq_true]
  exact ⟨fun h => h.imp id fun ⟨r, h1, ⟨h2, h3⟩, h4⟩ => ⟨r, h1, h2, h3, h4⟩, fun h => h.imp id fun ⟨r, h1, h2, h3, h4⟩ => ⟨r, h1, ⟨h2, h3⟩, h4⟩⟩
theorem undR_not {lim many : Nat} {l : List Rpt} : undR lim many l = false ↔ many < lim ∧ ∀ r ∈ l, r.st = 3 → openR (bestR l) r = true → many + lostGe l r.b < lim := by
  rw [← Bool.not_eq_true, undR_iff]
  constructor
  · intro h
    refine ⟨by omega, fun r hr h1 h2 => ?_⟩
    rcases Nat.lt_or_ge (many + lostGe l r.b) lim with h3 | h3
    · exact h3
    · exact absurd (.inr ⟨r, hr, h1, h2, h3⟩) h
  · rintro ⟨h1, h2⟩ (h | ⟨r, hr, h3, h4, h5⟩)
    · omega
    · have := h2 r hr h3 h4
      omega
def valR (o : Option Rpt) : Nat × Ent := match o with
  | none => (1, noopE)
  | some q => (2, q.e)
def ansR (lim many : Nat) (l : List Rpt) : Nat × Ent := if undR lim many l then (0, {}) else valR (bestR l)
theorem ansR_many {lim many : Nat} {l : List Rpt} (h : ¬ many < lim) : ansR lim many l = (0, {}) := if_pos (undR_iff.2 (.inl (by omega)))
theorem ansR_nil {lim many : Nat} (h : many < lim) : ansR lim many [] = (1, noopE) := by
  unfold ansR
  rw [if_neg (by rw [Bool.not_eq_true, undR_not]; exact ⟨h, fun r hr => by cases hr⟩)]
  rfl
def hasR (r : Rpt) : Bool := decide (r.st = 2 ∨ r.st = 3)
def unkR (r : Rpt) : Bool := decide (r.st = 0 ∨ r.st = 4)
theorem hasR_iff {r : Rpt} : hasR r = true ↔ r.st = 2 ∨ r.st = 3 := decide_eq_true_iff
theorem unkR_iff {r : Rpt} : unkR r = true ↔ r.st = 0 ∨ r.st = 4 := decide_eq_true_iff
theorem ansR_value {lim many : Nat} {l1 l2 : List Rpt} {r : Rpt} (h : many < lim) (hr : r.st = 2) (hg : ∀ x ∈ l1 ++ r :: l2, ltB r.b x.b = false) (h1 : ∀ x ∈ l1, x.b = r.b → x.st ≠ 2) : ansR lim many (l1 ++ r :: l2) = (2, r.e) := by
  have hb : bestR (l1 ++ r :: l2) = some r := bestR_is hr (fun x hx hs => by
    cases hl : ltB x.b r.b with
    | true => rfl
    | false => exact absurd hs (h1 x hx (ltB_eq hl (hg x (List.mem_append_left _ hx))))) fun x hx _ => hg x (List.mem_append_right _ (List.mem_cons_of_mem _ hx))
  unfold ansR
  rw [if_neg (by
    rw [Bool.not_eq_true, undR_not]
    refine ⟨h, fun x hx _ ho => ?_⟩
    rw [hb] at ho
    have : ltB r.b x.b = true := ho
    rw [hg x hx] at this
    cases this), hb]
  rfl
theorem lostGe_split (l : List Rpt) (g b : Bal) (hb : ltB b g = true) (h2 : ∀ x ∈ l, x.b = g → x.st = 3) : lostGe l b = l.countP (fun r => eqB r.b g) + lostGe (l.filter fun r => !eqB r.b g) b := by
  induction l with
  | nil => rfl
  | cons a l ih =>
    have ih := ih fun x hx => h2 x (List.mem_cons_of_mem _ hx)
    unfold lostGe at ih ⊢
    rw [List.countP_cons, List.countP_cons, ih]
    cases he : eqB a.b g with
    | true =>
      have ea := eqB_iff.1 he
      rw [List.filter_cons_of_neg (by rw [he]; decide), h2 a (List.mem_cons_self ..) ea, ea]
      have hn : ltB g b = false := by rw [ltB_iff] at hb; rw [ltB_not]; omega
      rw [hn]
      simp only [decide_true, Bool.not_false, Bool.and_self, if_true]
      omega
    | false =>
      rw [List.filter_cons_of_pos (by rw [he]; decide), List.countP_cons]
      simp only [Bool.false_eq_true, if_false]
      omega
theorem lostGe_top (l : List Rpt) (g : Bal) (hg : ∀ x ∈ l, ltB g x.b = false) (h2 : ∀ x ∈ l, x.b = g → x.st = 3) : lostGe l g = l.countP (fun r => eqB r.b g) := by
  unfold lostGe
  refine List.countP_congr fun x hx => ?_
  rw [Bool.and_eq_true, decide_eq_true_iff, Bool.not_eq_true', eqB_iff]
  exact ⟨fun h => ltB_eq h.2 (hg x hx), fun h => ⟨h2 x hx h, by rw [h]; exact ltB_self _⟩⟩
theorem ansR_next {lim many : Nat} {l : List Rpt} {g : Bal} (h : many < lim) (hs : ∀ x ∈ l, x.st = 2 ∨ x.st = 3) (hg : ∀ x ∈ l, ltB g x.b = false) (h1 : ∀ x ∈ l, x.b = g → x.st ≠ 2) (hm : ∃ x ∈ l, x.b = g) :
    ansR lim many l = ansR lim (many + l.countP fun r => eqB r.b g) (l.filter fun r => !eqB r.b g) := by
  have h3 : ∀ x ∈ l, x.b = g → x.st = 3 := fun x hx e => (hs x hx).resolve_left (h1 x hx e)
  have hb : bestR (l.filter fun r => !eqB r.b g) = bestR l := bestR_filter fun x hx e => by
    rw [Bool.not_eq_true', ← Bool.not_eq_true, eqB_iff]
    exact fun e' => h1 x hx e' e
  have hu : undR lim many l = undR lim (many + l.countP fun r => eqB r.b g) (l.filter fun r => !eqB r.b g) := by
    rw [Bool.eq_iff_iff, undR_iff, undR_iff, hb]
    constructor
    · rintro (h4 | ⟨r, hr, h4, h5, h6⟩)
      · omega
      · by_cases e : r.b = g
        · rw [e, lostGe_top l g hg h3] at h6
          exact .inl h6
        · have hlt : ltB r.b g = true := by
            cases hl : ltB r.b g with
            | true => rfl
            | false => exact absurd (ltB_eq hl (hg r hr)) e
          refine .inr ⟨r, List.mem_filter.2 ⟨hr, by rw [Bool.not_eq_true', ← Bool.not_eq_true, eqB_iff]; exact e⟩, h4, h5, ?_⟩
          rw [lostGe_split l g r.b hlt h3] at h6
          omega
    · rintro (h4 | ⟨r, hr, h4, h5, h6⟩)
      · obtain ⟨x, hx, e⟩ := hm
        refine .inr ⟨x, hx, h3 x hx e, ?_, by rw [e, lostGe_top l g hg h3]; exact h4⟩
        cases hbb : bestR l with
        | none => rfl
        | some q =>
          obtain ⟨m, s, _⟩ := bestR_some hbb
          show ltB q.b x.b = true
          cases hl : ltB q.b x.b with
          | true => rfl
          | false =>
            rw [e] at hl
            exact absurd s (h1 q m (ltB_eq hl (hg q m)))
      · obtain ⟨hr, he⟩ := List.mem_filter.1 hr
        rw [Bool.not_eq_true', ← Bool.not_eq_true, eqB_iff] at he
        have hlt : ltB r.b g = true := by
          cases hl : ltB r.b g with
          | true => rfl
          | false => exact absurd (ltB_eq hl (hg r hr)) he
        refine .inr ⟨r, hr, h4, h5, ?_⟩
        rw [lostGe_split l g r.b hlt h3]
        omega
  unfold ansR
  rw [hu, hb]
def okR (n : Int) (l : List Rpt) : Bool := crowdB n && decide ((l.length : Int) = n) && l.all fun r => decide (r.st ≤ 4)
def waitR (l : List Rpt) : Bool := undR (l.length / 2 + 1) (l.countP unkR) l && l.any fun r => decide (r.st = 0)
def decE (n : Int) (l : List Rpt) : Int := if okR n l then 0 else 2
def decR (n : Int) (l : List Rpt) : Nat × Ent := if okR n l then (if waitR l then (0, {}) else valR (bestR l)) else (0, {})
theorem okR_iff {n : Int} {l : List Rpt} : okR n l = true ↔ (n = 3 ∨ n = 5 ∨ n = 7) ∧ (l.length : Int) = n ∧ ∀ r ∈ l, r.st ≤ 4 := by
  unfold okR
  simp only [Bool.and_eq_true, crowdB_iff, decide_eq_true_iff, List.all_eq_true, and_assoc]
theorem bestR_has (l : List Rpt) : bestR (l.filter hasR) = bestR l := bestR_filter fun _ _ h => hasR_iff.2 (.inl h)
theorem lostGe_has (l : List Rpt) (b : Bal) : lostGe (l.filter hasR) b = lostGe l b := by
  unfold lostGe
  rw [List.countP_filter]
  refine List.countP_congr fun x _ => ?_
  rw [Bool.and_eq_true, Bool.and_eq_true, decide_eq_true_iff, hasR_iff]
  exact ⟨fun h => h.1, fun h => ⟨h, .inr h.1⟩⟩
theorem undR_has (lim many : Nat) (l : List Rpt) : undR lim many (l.filter hasR) = undR lim many l := by
  rw [Bool.eq_iff_iff, undR_iff, undR_iff, bestR_has]
  simp only [lostGe_has]
  exact ⟨fun h => h.imp id fun ⟨r, h1, h2⟩ => ⟨r, (List.mem_filter.1 h1).1, h2⟩, fun h => h.imp id fun ⟨r, h1, h2⟩ => ⟨r, List.mem_filter.2 ⟨h1, hasR_iff.2 (.inr h2.1)⟩, h2⟩⟩
theorem ansR_has (lim many : Nat) (l : List Rpt) : ansR lim many (l.filter hasR) = if undR lim many l then (0, {}) else valR (bestR l) := by
  unfold ansR
  rw [undR_has, bestR_has]
theorem valR_pos (o : Option Rpt) : (valR o).1 ≠ 0 := by
  cases o with
  | none => exact fun h => by cases h
  | some q => exact fun h => by cases h
theorem lost_unk : ∀ (l : List Rpt) (b : Bal), l.countP unkR + lostGe l b ≤ l.length
  | [], _ => Nat.le_refl _
  | a :: l, b => by
    have ih := lost_unk l b
    unfold lostGe at ih ⊢
    rw [List.countP_cons, List.countP_cons, List.length_cons]
    by_cases h3 : a.st = 3
    · have hu : unkR a = false := by rw [← Bool.not_eq_true, unkR_iff]; omega
      rw [hu, if_neg (fun h : false = true => by cases h)]
      split <;> omega
    · rw [decide_eq_false h3, Bool.false_and]
      simp only [Bool.false_eq_true, if_false]
      split <;> omega
theorem undR_all (l : List Rpt) {lim : Nat} (h : l.length < lim) : undR lim (l.countP unkR) l = false := by
  rw [undR_not]
  have h1 : l.countP unkR ≤ l.length := List.countP_le_length
  exact ⟨by omega, fun r _ _ _ => by have := lost_unk l r.b; omega⟩
end
section
open Go Go.RowKit
structure Mod (F : Nat → Prop) (w w' : World) : Prop where
  os : w'.os = w.os
  tape : w'.tape = w.tape
  output : w'.output = w.output
  size : w.heap.size ≤ w'.heap.size
  block : ∀ k, k < w.heap.size → ¬ F k → w'.heap[k]? = w.heap[k]?
section
variable {F G : Nat → Prop} {a b c w w' : World}
theorem Mod.refl (F : Nat → Prop) (w : World) : Mod F w w := ⟨rfl, rfl, rfl, Nat.le_refl _, fun _ _ _ => rfl⟩
theorem Mod.trans (h : Mod F a b) (k : Mod G b c) (hG : ∀ i, G i → F i ∨ a.heap.size ≤ i) : Mod F a c :=
  ⟨k.os.trans h.os, k.tape.trans h.tape, k.output.trans h.output, Nat.le_trans h.size k.size, fun i hi hf =>
    (k.block i (Nat.lt_of_lt_of_le hi h.size) fun hg => (hG i hg).elim hf fun hl => absurd hi (by omega)).trans (h.block i hi hf)⟩
theorem Mod.of_ext (h : Ext w w') : Mod F w w' := ⟨h.os, h.tape, h.output, h.size, fun k hk _ => h.block k hk⟩
theorem Mod.setCell (h : Mod F a b) {p : Addr} (hp : F p.block ∨ a.heap.size ≤ p.block) (v : Value) : Mod F a (b.setCell p v) :=
  ⟨h.os, h.tape, h.output, Nat.le_trans h.size (by simp [World.setCell]), fun k hk hf => (Below.heap_setCell _ _ _ _ (fun e => by
    subst e
    exact hp.elim hf fun hl => absurd hk (by omega))).trans (h.block k hk hf)⟩
theorem Mod.setCells (h : Mod F a b) (g o : Nat) (vs : List Value) (hp : F g ∨ a.heap.size ≤ g) : Mod F a (b.setCells g o vs) := by
  induction vs generalizing b o with
  | nil => exact h
  | cons v r ih => exact ih (h.setCell (p := ⟨g, o, none⟩) hp v) (o + 1)
theorem Mod.grown {row : Option Nat} (h : Mod F a b) (hg : b.grownBy c row) (hr : ∀ k, row = some k → F k ∨ a.heap.size ≤ k) : Mod F a c :=
  ⟨hg.os.trans h.os, hg.tape.trans h.tape, hg.output.trans h.output, Nat.le_trans h.size hg.size, fun k hk hf =>
    (hg.block k (Nat.lt_of_lt_of_le hk h.size) (fun e => (hr k e.symm).elim hf fun hl => absurd hk (by omega))).trans (h.block k hk hf)⟩
theorem heap_mod {g : Nat} {o : Obj} (h : w.heap[g]? = some o) (k : Mod F w w') (hg : ¬ F g) : w'.heap[g]? = some o := (k.block g (Array.getElem?_eq_some_iff.1 h).1 hg).trans h
theorem own_mod {base e size n : Nat} {v : Value} {xs : List Value} (h : w.ownsRow base e size v n xs) (k : Mod F w w') (hv : ∀ i, v.ownBlock = some i → ¬ F i) : w'.ownsRow base e size v n xs := by
  refine ⟨h.1, ?_⟩
  rcases h.2 with h0 | ⟨g, cap, cur, rfl, hb, hg, h1⟩
  · exact .inl h0
  · exact .inr ⟨g, cap, cur, rfl, hb, heap_mod hg k (hv g rfl), h1⟩
end
end
section
open Go Go.RowKit
theorem flat_get {α : Type} {cells : α → List Value} {N : Nat} (hN : ∀ a, (cells a).length = N) (h0 : 0 < N) : ∀ (l : List α) (k j : Nat), j < N → (l.flatMap cells)[k * N + j]? = (l[k]?).bind fun a => (cells a)[j]?
  | [], k, j, _ => by simp
  | a :: l, 0, j, hj => by
    rw [List.flatMap_cons, List.getElem?_append_left (by rw [hN]; omega)]
    simp
  | a :: l, k + 1, j, hj => by
    rw [List.flatMap_cons, List.getElem?_append_right (by rw [hN, Nat.succ_mul]; omega), hN, show (k + 1) * N + j - N = k * N + j by rw [Nat.succ_mul]; omega, flat_get hN h0 l k j hj]
    simp
theorem Ls.of_own {α : Type} {cells : α → List Value} {N : Nat} {w : World} {B : Nat} {e : TypeId} {v : Value} {l : List α} (hN : ∀ a, (cells a).length = N) (h0 : 0 < N) (h : w.ownsRow B e N v l.length (l.flatMap cells)) : ∃ A c, v = .slice A l.length c ∧ Ls cells N w w.heap.size A l.length c l := by
  rcases h.2 with ⟨rfl, hz⟩ | ⟨g, cap, cur, rfl, hB, hg, hn, hm, hs, ht⟩
  · have hl : l = [] := List.length_eq_zero_iff.1 hz
    subst hl
    exact ⟨none, 0, rfl, ⟨rfl, Nat.le_refl _, by omega, fun h => absurd h (by simp), fun _ => rfl⟩⟩
  · refine ⟨some ⟨g, 0, none⟩, cap, rfl, ⟨rfl, hn, by unfold maxLen at hm; exact hm, fun _ => ⟨g, 0, rfl, (Array.getElem?_eq_some_iff.1 hg).1, fun j a ha k x hx => ?_⟩, fun e => by cases e⟩⟩
    have hk : k < N := by have := (List.getElem?_eq_some_iff.1 hx).1; rw [hN] at this; exact this
    have hjl : j < l.length := (List.getElem?_eq_some_iff.1 ha).1
    have hf := flat_get hN h0 l j k hk
    rw [ha] at hf
    have hx2 : (l.flatMap cells)[j * N + k]? = some x := by rw [hf]; exact hx
    have hlt : j * N + k < l.length * N := by
      have : (j + 1) * N ≤ l.length * N := Nat.mul_le_mul_right _ hjl
      rw [Nat.succ_mul] at this
      omega
    rw [Nat.zero_add, cell_of_row w g _ _ _ _ hg, ← hx2, ← ht, List.getElem?_take_of_lt hlt, Array.getElem?_toList]
theorem row_grown {w w' : World} {row : Option Nat} {k : Nat} {o : Obj} (h : w.heap[k]? = some o) (hg : w.grownBy w' row) (hne : some k ≠ row) : w'.heap[k]? = some o := (hg.block k (Array.getElem?_eq_some_iff.1 h).1 hne).trans h
theorem ownsRow_extL {w w' : World} {b e sz n : Nat} {v : Value} {xs : List Value} (h : w.ownsRow b e sz v n xs) (k : Ext w w') : w'.ownsRow b e sz v n xs := own_mod h (Mod.of_ext (F := fun _ => False) k) fun _ _ hf => hf
end
section
open Go Go.RowKit
theorem bal_one (w : World) (x y : Int) (t : TypeId) : (w.alloc (.cells #[.int .i64 x, .int .i64 y] t)).cell? ⟨w.heap.size, 0, none⟩ = some (.int .i64 x) ∧ (w.alloc (.cells #[.int .i64 x, .int .i64 y] t)).cell? ⟨w.heap.size, 1, none⟩ = some (.int .i64 y) :=
  ⟨cell_of_row _ w.heap.size 0 _ _ _ (heap_alloc_new w _), cell_of_row _ w.heap.size 1 _ _ _ (heap_alloc_new w _)⟩
set_option maxHeartbeats 600000 in
theorem isless_of (x y x' y' : Int) (w : World) : Calls Try.prog 36 #[.agg #[.int .i64 x, .int .i64 y], .agg #[.int .i64 x', .int .i64 y']] w fun e w' => e = .returned (.bool (ltB ⟨x, y⟩ ⟨x', y'⟩)) ∧ Ext w w' := by
  obtain ⟨r, hr⟩ : ∃ r, ltB ⟨x, y⟩ ⟨x', y'⟩ = r := ⟨_, rfl⟩
  rw [hr]
  have HX := Lib.hid (((Ext.refl w).alloc (.cells #[.int .i64 x, .int .i64 y] 75)).alloc (.cells #[.int .i64 x', .int .i64 y'] 40))
  have fin : ∀ b : Bool, ltB ⟨x, y⟩ ⟨x', y'⟩ = b → Ending.returned (Value.bool b) = .returned (.bool r) := fun b h => by rw [← h, hr]
  have FIN := Lib.hid fin
  clear fin hr
  by_cases h1 : x < x'
  · have HB : Hid (ltB ⟨x, y⟩ ⟨x', y'⟩ = true) := Lib.hid (ltB_iff.2 (.inl h1))
    go_enter Try.func36, Try.ntmps36
    go_wp2
    go_ret
    exact ⟨FIN.out _ HB.out, HX.out⟩
  · by_cases h2 : x = x'
    · by_cases h3 : y < y'
      · have HB : Hid (ltB ⟨x, y⟩ ⟨x', y'⟩ = true) := Lib.hid (ltB_iff.2 (.inr ⟨h2, h3⟩))
        have e2 : (x == x') = true := by simpa using h2
        clear h2
        go_enter Try.func36, Try.ntmps36
        go_wp2
        go_ret
        exact ⟨FIN.out _ HB.out, HX.out⟩
      · have HB : Hid (ltB ⟨x, y⟩ ⟨x', y'⟩ = false) := Lib.hid (ltB_not.2 (by dsimp only; omega))
        have e2 : (x == x') = true := by simpa using h2
        clear h2
        go_enter Try.func36, Try.ntmps36
        go_wp2
        go_ret
        exact ⟨FIN.out _ HB.out, HX.out⟩
    · have HB : Hid (ltB ⟨x, y⟩ ⟨x', y'⟩ = false) := Lib.hid (ltB_not.2 (by dsimp only; omega))
      have e2 : (x == x') = false := by simpa using h2
      clear h2
      go_enter Try.func36, Try.ntmps36
      go_wp2
      go_ret
      exact ⟨FIN.out _ HB.out, HX.out⟩
set_option maxHeartbeats 600000 in
theorem less_of (x y x' y' : Int) (w : World) : Calls Try.prog 19 #[.agg #[.int .i64 x, .int .i64 y], .agg #[.int .i64 x', .int .i64 y']] w fun e w' => e = .returned (.bool (ltB ⟨x, y⟩ ⟨x', y'⟩)) ∧ Ext w w' := by
  have HX := Lib.hid (((Ext.refl w).alloc (.cells #[.int .i64 x, .int .i64 y] 40)).alloc (.cells #[.int .i64 x', .int .i64 y'] 40))
  go_enter Try.func19, Try.ntmps19
  go_wp2_with fail
  refine (isless_of _ _ _ _ _).mono ?_
  rintro e w1 ⟨rfl, hx⟩
  have HX := Lib.hid (HX.out.trans hx)
  clear hx
  go_wp2_with fail
  go_ret
  exact ⟨rfl, HX.out⟩
theorem Ls.bal {w : World} {B n c : Nat} {A : Option Addr} {l : List Bal} (h : Ls Bal.cells 2 w B A n c l) {j : Nat} (hj : j < n) : ∃ g o b, A = some ⟨g, o, none⟩ ∧ l[j]? = some b ∧ w.cell? ⟨g, o + j * 2, none⟩ = some (.int .i64 b.x) ∧ w.cell? ⟨g, o + j * 2 + 1, none⟩ = some (.int .i64 b.y) := by
  obtain ⟨g, o, b, h1, _, h2, h3⟩ := h.at_ hj
  exact ⟨g, o, b, h1, h2, h3 0 _ rfl, h3 1 _ rfl⟩
def FirstB (b : Bal) (l : List Bal) (z : Int) : Prop := (z = -1 ∧ ∀ (j : Nat) (a : Bal), l[j]? = some a → ltB b a = false) ∨ ∃ (i : Nat) (a : Bal), z = (i : Nat) ∧ l[i]? = some a ∧ ltB b a = true ∧ ∀ (j : Nat) (a' : Bal), j < i → l[j]? = some a' → ltB b a' = false
set_option maxHeartbeats 600000 in
theorem indexB_of (x y : Int) (A : Option Addr) (n c : Nat) (l : List Bal) (w : World) (h : Ls Bal.cells 2 w w.heap.size A n c l) :
    Calls Try.prog 42 #[.slice A n c, .func (.func 36) #[.agg #[.int .i64 x, .int .i64 y]] #[]] w fun e w' => ∃ z, e = .returned (.int .i64 z) ∧ FirstB ⟨x, y⟩ l z ∧ Ext w w' := by
  have hcap := h.cap
  have hmost := h.most
  have H := Lib.hid h
  have HLN := Lib.hid h.len
  clear h
  go_enter Try.func42, Try.ntmps42
  go_wp2_with fail
  go_loopw [8] (fun i wr => ∃ j : Nat, j ≤ n ∧ i = .int .i64 (j : Int) ∧ Hid (∀ (k : Nat) (a : Bal), k < j → l[k]? = some a → ltB ⟨x, y⟩ a = false) ∧ Hid (Ext w wr)) (fun i _ => n - (intOf i).toNat)
  case atStart => exact ⟨0, Nat.zero_le _, rfl, Lib.hid (fun k a hk => absurd hk (Nat.not_lt_zero _)), Lib.hid (Ext.refl _)⟩
  case round =>
    obtain ⟨j, hj, rfl, HN, HX⟩ := hrel
    by_cases hlt : j < n
    · obtain ⟨g, o, b, rfl, hb, c0, c1⟩ := Ls.bal (H.out.below HX.out) hlt
      obtain ⟨bx, by_⟩ := b
      dsimp only at c0 c1
      have HB := Lib.hid hb
      have HC := Lib.hid (isless_of x y bx by_ wr)
      obtain ⟨r, hr⟩ : ∃ r, ltB ⟨x, y⟩ ⟨bx, by_⟩ = r := ⟨_, rfl⟩
      rw [hr] at HC
      have HR := Lib.hid hr
      clear hb hr
      cases r with
      | true =>
        go_wp2_with fail
        refine HC.out.mono ?_
        rintro e w1 ⟨rfl, hx⟩
        have HX := Lib.hid (HX.out.trans hx)
        clear hx c0 c1 HC
        go_wp2_with fail
        go_ret
        exact ⟨_, rfl, .inr ⟨j, _, rfl, HB.out, HR.out, HN.out⟩, HX.out⟩
      | false =>
        go_wp2_with fail
        refine HC.out.mono ?_
        rintro e w1 ⟨rfl, hx⟩
        have HX := Lib.hid (HX.out.trans hx)
        clear hx c0 c1 HC
        go_wp2_with fail
        go_roundw
        case rel =>
          refine ⟨j + 1, by omega, by go_num, Lib.hid (fun k a hk ha => ?_), HX⟩
          by_cases hkj : k = j
          · subst hkj
            rw [HB.out] at ha
            injection ha with ha
            rw [← ha]
            exact HR.out
          · exact HN.out k a (by omega) ha
        case measure => simp [intOf]; omega
    · have hjn : j = n := by omega
      subst hjn
      go_wp2_with fail
      go_ret
      exact ⟨_, rfl, .inl ⟨rfl, fun k a ha => HN.out k a (by have := (List.getElem?_eq_some_iff.1 ha).1; rw [HLN.out] at this; exact this) ha⟩, HX.out⟩
end
end Go.Proofs.Ytinflpheogglhaa
