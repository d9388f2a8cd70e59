/-
  Plain facts on disks: power for so many writes and flushes; what comes through then.
-/
import Derived.Test.YtmfbeglidhejkaaDTorn
namespace Go.Proofs.Ytmfbeglidhejkaa

/-- The write of the number k (from 1 on). -/
def wOf (k : Nat) : Nat × List Nat := ((k - 1) % 4, List.replicate 64 k)
/-- Which write a sector holds, when those of the list have been carried out, too. -/
def lastAll (wl : List Nat) (last : Nat → Nat) : Nat → Nat := wl.foldl (fun f k s => if (k - 1) % 4 = s then k else f s) last
theorem lastAll_snoc (wl : List Nat) (k : Nat) (last : Nat → Nat) (s : Nat) : lastAll (wl ++ [k]) last s = if (k - 1) % 4 = s then k else lastAll wl last s := by
  unfold lastAll
  rw [List.foldl_append]
  rfl
/-- Of the numbers those that are kept. -/
def keptN : List Nat → List Bool → List Nat
  | x :: l, true :: k => x :: keptN l k
  | _ :: l, false :: k => keptN l k
  | _, _ => []
theorem kept_map : ∀ (wl : List Nat) (k : List Bool), kept (wl.map wOf) k = (keptN wl k).map wOf
  | [], [] => rfl
  | [], _ :: _ => by simp [kept, keptN]
  | _ :: _, [] => by simp [kept, keptN]
  | x :: l, true :: k => by
    simp only [List.map_cons, kept, keptN]
    rw [kept_map l k]
  | x :: l, false :: k => by
    simp only [List.map_cons, kept, keptN]
    exact kept_map l k
theorem keptN_mem : ∀ {l : List Nat} {k : List Bool} {x : Nat}, x ∈ keptN l k → x ∈ l
  | [], _, x, h => by simp [keptN] at h
  | y :: l, [], x, h => by simp [keptN] at h
  | y :: l, true :: k, x, h => by
    simp only [keptN, List.mem_cons] at h
    rcases h with rfl | h
    · simp
    · exact List.mem_cons_of_mem _ (keptN_mem h)
  | y :: l, false :: k, x, h => by
    simp only [keptN] at h
    exact List.mem_cons_of_mem _ (keptN_mem h)
theorem keptN_snoc : ∀ (l : List Nat) (n : Nat) (x : Nat) (k : List Bool), l.length = n → keptN (l ++ [x]) k = if k[n]? = some true then keptN l k ++ [x] else keptN l k
  | [], _, x, [], rfl => by simp [keptN]
  | [], _, x, true :: k, rfl => by simp [keptN]
  | [], _, x, false :: k, rfl => by simp [keptN]
  | y :: l, _, x, [], rfl => by simp [keptN]
  | y :: l, _, x, true :: k, rfl => by
    simp only [List.cons_append, keptN, List.length_cons, List.getElem?_cons_succ]
    rw [keptN_snoc l l.length x k rfl]
    split <;> simp
  | y :: l, _, x, false :: k, rfl => by
    simp only [List.cons_append, keptN, List.length_cons, List.getElem?_cons_succ]
    exact keptN_snoc l l.length x k rfl
theorem lastW_map (wl : List Nat) (last : Nat → Nat) (s : Nat) : (lastW (wl.map wOf) s).getD (List.replicate 64 (last s)) = List.replicate 64 (lastAll wl last s) := by
  have key : ∀ (l : List Nat) (f : Nat → Nat), (lastW (l.map wOf) s).getD (List.replicate 64 (f s)) = List.replicate 64 (lastAll l f s) := by
    intro l
    induction l with
    | nil => intro f; rfl
    | cons k l ih =>
      intro f
      have e : lastAll (k :: l) f s = lastAll l (fun t => if (k - 1) % 4 = t then k else f t) s := rfl
      rw [e, ← ih]
      show ((lastW (l.map wOf) s).or (if (k - 1) % 4 = s then some (List.replicate 64 k) else none)).getD _ = _
      cases lastW (l.map wOf) s with
      | some b => rfl
      | none =>
        by_cases h : (k - 1) % 4 = s
        · simp [h]
        · simp [h]
  exact key wl last

/-- A disk of four sectors after i writes and flushes, with power for pw: which writes wait, which each sector holds. -/
structure PInv (m : DM) (pw i : Nat) (wl : List Nat) (last : Nat → Nat) : Prop where
  ok : m.Ok
  four : m.size = 4
  waits : m.waits = wl.map wOf
  small : ∀ k ∈ wl, 1 ≤ k ∧ k ≤ i
  held : ∀ s, s < 4 → m.rest.getD s [] = List.replicate 64 (last s)
  lost : ∀ s, m.lost.getD s false = false
  down : m.down = false
  dead : m.dead = decide (pw < i)
  power : m.power = ((pw - i : Nat) : Int)
theorem PInv.up {m : DM} {pw i : Nat} {wl : List Nat} {last : Nat → Nat} (h : PInv m pw i wl last) : m.up = decide (i ≤ pw) := by
  unfold DM.up
  rw [h.down, h.dead]
  by_cases hi : i ≤ pw
  · rw [decide_eq_true hi, decide_eq_false (by omega)]; rfl
  · rw [decide_eq_false hi, decide_eq_true (by omega)]; rfl
theorem PInv.start (pw : Nat) : ((DM.new 4).setPower (pw : Int)).1 = 0 ∧ PInv ((DM.new 4).setPower (pw : Int)).2 pw 0 [] (fun _ => 0) := by
  have e : (DM.new 4).setPower (pw : Int) = (0, { DM.new 4 with power := (pw : Int) }) := by
    unfold DM.setPower
    rw [if_neg (by decide), if_neg (by omega)]
  have hok := DM.setPower_ok (DM.new_ok 4) (pw : Int)
  rw [e] at hok ⊢
  refine ⟨rfl, hok, rfl, rfl, fun k hk => (by cases hk), fun s hs => ?_, fun s => ?_, rfl, rfl, rfl⟩
  · show (List.replicate 4 z64).getD s [] = _
    rw [List.getD_eq_getElem?_getD, List.getElem?_replicate, if_pos hs]
    rfl
  · show (List.replicate 4 false).getD s false = false
    rw [List.getD_eq_getElem?_getD, List.getElem?_replicate]
    split <;> rfl
theorem PInv.dead_step {m : DM} {pw i : Nat} {wl : List Nat} {last : Nat → Nat} (h : PInv m pw i wl last) (hi : pw < i) : PInv m pw (i + 1) wl last :=
  ⟨h.ok, h.four, h.waits, fun k hk => by have := h.small k hk; omega, h.held, h.lost, h.down, by rw [h.dead, decide_eq_true hi, decide_eq_true (by omega)], by rw [h.power, show pw - i = 0 by omega, show pw - (i + 1) = 0 by omega]⟩
theorem PInv.die {m : DM} {pw i : Nat} {wl : List Nat} {last : Nat → Nat} (h : PInv m pw i wl last) (hi : i = pw) : PInv { m with dead := true } pw (i + 1) wl last :=
  ⟨⟨h.ok.meant, h.ok.lost, h.ok.rests, h.ok.means, h.ok.waits, h.ok.power⟩, h.four, h.waits, fun k hk => by have := h.small k hk; omega, h.held, h.lost, h.down, by show true = _; rw [decide_eq_true (by omega)], by show m.power = _; rw [h.power, show pw - i = 0 by omega, show pw - (i + 1) = 0 by omega]⟩
theorem PInv.write {m : DM} {pw i : Nat} {wl : List Nat} {last : Nat → Nat} (h : PInv m pw i wl last) (hi : i < 255) :
    (m.write ((i % 4 : Nat) : Int) (List.replicate 64 (i + 1))).1 = (if i < pw then 0 else 5) ∧ PInv (m.write ((i % 4 : Nat) : Int) (List.replicate 64 (i + 1))).2 pw (i + 1) (if i < pw then wl ++ [i + 1] else wl) last := by
  have hh : m.has ((i % 4 : Nat) : Int) = true := DM.has_iff.2 ⟨by omega, by rw [h.four]; omega⟩
  have hok := DM.write_ok h.ok ((i % 4 : Nat) : Int) (b := List.replicate 64 (i + 1)) (fun x hx => by rw [(List.mem_replicate.1 hx).2]; omega)
  revert hok
  unfold DM.write
  by_cases hd : pw < i
  · rw [if_pos (by rw [h.up, decide_eq_false (by omega)]), if_neg (show ¬ i < pw by omega), if_neg (show ¬ i < pw by omega)]
    intro _
    exact ⟨rfl, h.dead_step hd⟩
  · rw [if_neg (by rw [h.up, decide_eq_true (by omega)]; simp), if_neg (by rw [hh]; simp)]
    by_cases hp : i = pw
    · rw [if_pos (by rw [h.power]; omega), if_neg (show ¬ i < pw by omega), if_neg (show ¬ i < pw by omega)]
      intro _
      exact ⟨rfl, h.die hp⟩
    · rw [if_neg (by rw [h.power]; omega), if_pos (show i < pw by omega), if_pos (show i < pw by omega)]
      intro hok
      refine ⟨rfl, hok, h.four, ?_, fun k hk => ?_, h.held, h.lost, h.down, ?_, ?_⟩
      · show m.waits ++ [(((i % 4 : Nat) : Int).toNat, List.replicate 64 (i + 1))] = _
        rw [h.waits, List.map_append, Int.toNat_natCast]
        simp [wOf]
      · rcases List.mem_append.1 hk with hk | hk
        · have := h.small k hk; omega
        · simp only [List.mem_singleton] at hk; omega
      · show m.dead = _
        rw [h.dead, decide_eq_false (by omega), decide_eq_false (by omega)]
      · show lessP m.power = _
        rw [h.power]
        unfold lessP
        split <;> omega
theorem PInv.comes {m : DM} {wl : List Nat} {last : Nat → Nat} (ok : m.Ok) (held : ∀ s, s < 4 → m.rest.getD s [] = List.replicate 64 (last s)) (lost : ∀ s, m.lost.getD s false = false) (hl : ∀ x ∈ wl.map wOf, x.1 < m.size) :
    (∀ s, s < 4 → (m.comes (wl.map wOf)).rest.getD s [] = List.replicate 64 (lastAll wl last s)) ∧ ∀ s, (m.comes (wl.map wOf)).lost.getD s false = false := by
  refine ⟨fun s hs => ?_, fun s => ?_⟩
  · rw [(comes_get _ m ok hl s).1, held s hs]
    exact lastW_map wl last s
  · rw [(comes_get _ m ok hl s).2.2, lost s]
    split <;> rfl
theorem PInv.flush {m : DM} {pw i : Nat} {wl : List Nat} {last : Nat → Nat} (h : PInv m pw i wl last) :
    m.flush.1 = (if i < pw then 0 else 5) ∧ PInv m.flush.2 pw (i + 1) (if i < pw then [] else wl) (if i < pw then lastAll wl last else last) := by
  have hok := DM.flush_ok h.ok
  revert hok
  unfold DM.flush
  by_cases hd : pw < i
  · rw [if_pos (by rw [h.up, decide_eq_false (by omega)]), if_neg (show ¬ i < pw by omega), if_neg (show ¬ i < pw by omega), if_neg (show ¬ i < pw by omega)]
    intro _
    exact ⟨rfl, h.dead_step hd⟩
  · rw [if_neg (by rw [h.up, decide_eq_true (by omega)]; simp)]
    by_cases hp : i = pw
    · rw [if_pos (by rw [h.power]; omega), if_neg (show ¬ i < pw by omega), if_neg (show ¬ i < pw by omega), if_neg (show ¬ i < pw by omega)]
      intro _
      exact ⟨rfl, h.die hp⟩
    · rw [if_neg (by rw [h.power]; omega), if_pos (show i < pw by omega), if_pos (show i < pw by omega), if_pos (show i < pw by omega)]
      intro hok
      have hm : ({ m with power := lessP m.power } : DM).Ok := ⟨h.ok.meant, h.ok.lost, h.ok.rests, h.ok.means, h.ok.waits, lessP_le h.ok.power⟩
      have hc := PInv.comes (m := { m with power := lessP m.power }) (wl := wl) (last := last) hm h.held h.lost (fun x hx => by rw [← h.waits] at hx; exact (h.ok.waits x hx).1)
      rw [← h.waits] at hc
      have hcw := DM.comes_waits m.waits { m with power := lessP m.power }
      refine ⟨rfl, hok, ?_, rfl, fun k hk => (by cases hk), hc.1, hc.2, ?_, ?_, ?_⟩
      · show (DM.comes _ _).size = 4
        rw [DM.comes_size]
        exact h.four
      · show (DM.comes _ _).down = false
        rw [hcw.2.1]; exact h.down
      · show (DM.comes _ _).dead = _
        rw [hcw.2.2.1]
        show m.dead = _
        rw [h.dead, decide_eq_false (by omega), decide_eq_false (by omega)]
      · show (DM.comes _ _).power = _
        rw [hcw.2.2.2]
        show lessP m.power = _
        rw [h.power]
        unfold lessP
        split <;> omega
/-- Behind a crash and a start: what each sector holds. -/
theorem PInv.end_ {m : DM} {pw i : Nat} {wl : List Nat} {last : Nat → Nat} (h : PInv m pw i wl last) (keep : List Bool) :
    (m.crash keep).1 = 0 ∧ (m.crash keep).2.start.1 = 0 ∧ (m.crash keep).2.start.2.flush.1 = 0 ∧ ∀ s : Nat, s < 4 → (m.crash keep).2.start.2.flush.2.read (s : Int) = (List.replicate 64 (lastAll (keptN wl keep) last s), 0) := by
  have hc : m.crash keep = (0, { m.comes ((keptN wl keep).map wOf) with waits := [], down := true }) := by
    unfold DM.crash
    rw [if_neg (by rw [h.down]; simp), h.waits, kept_map]
  have hl : ∀ x ∈ (keptN wl keep).map wOf, x.1 < m.size := fun x hx => by
    refine (h.ok.waits x ?_).1
    rw [h.waits]
    obtain ⟨k, hk, rfl⟩ := List.mem_map.1 hx
    exact List.mem_map.2 ⟨k, keptN_mem hk, rfl⟩
  have hcm := PInv.comes (wl := keptN wl keep) (last := last) h.ok h.held h.lost hl
  have hsz : (m.comes ((keptN wl keep).map wOf)).size = 4 := by rw [DM.comes_size]; exact h.four
  rw [hc]
  refine ⟨rfl, rfl, rfl, fun s hs => ?_⟩
  have hh : ({ m.comes ((keptN wl keep).map wOf) with waits := [], down := false, dead := false, power := -1 } : DM).has (s : Int) = true := DM.has_iff.2 ⟨by omega, by show (s : Int) < ((m.comes ((keptN wl keep).map wOf)).size : Nat); rw [hsz]; omega⟩
  show ({ m.comes ((keptN wl keep).map wOf) with waits := [], down := false, dead := false, power := -1 } : DM).read (s : Int) = _
  unfold DM.read
  rw [if_neg (show ¬ DM.up _ = false from fun h => by cases h), if_neg (by rw [hh]; simp), Int.toNat_natCast]
  show (if (m.comes ((keptN wl keep).map wOf)).lost.getD s false = true then ([], (50 : Int)) else ((m.comes ((keptN wl keep).map wOf)).rest.getD s [], 0)) = _
  rw [hcm.2 s, hcm.1 s hs]
  rfl
end Go.Proofs.Ytmfbeglidhejkaa
