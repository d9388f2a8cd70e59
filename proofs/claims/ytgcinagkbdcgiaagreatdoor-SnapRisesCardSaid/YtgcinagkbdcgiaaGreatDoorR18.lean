/-
  Plain facts on shelves: what is held, behind Installs that are whole, behind one amid which the power goes, behind an Open.
-/
import Derived.Test.YtgcinagkbdcgiaaGreatDoorR00
import Derived.Test.YtgcinagkbdcgiaaGreatDoorR01
import Derived.Test.YtgcinagkbdcgiaaGreatDoorR06
import Derived.Test.YtgcinagkbdcgiaaGreatDoorR07
import Derived.Test.YtgcinagkbdcgiaaGreatDoorR10
import Derived.Test.YtgcinagkbdcgiaaGreatDoorR11
import Derived.Test.YtgcinagkbdcgiaaGreatDoorR12
import Derived.Test.YtgcinagkbdcgiaaGreatDoorR13
import Derived.Test.YtgcinagkbdcgiaaGreatDoorR14
import Derived.Test.YtgcinagkbdcgiaaGreatDoorR17
import Derived.Deep.RegionHeld3
import Derived.Laws.EntriesVeiled
import Derived.Deep.DeepCutAuto
import Derived.LoopN
import Derived.Lib.Hide
namespace Go.Proofs.YtgcinagkbdcgiaaGreatDoor
set_option maxRecDepth 100000
section
def DM.kh (m : DM) (p : Nat) : List Nat := pair2 (m.hold (sC p)) (m.hold (sC p + 1))
theorem CD.kb {m : DM} {pw : Int} (h : CD m pw) {p : Nat} (hp : p < 16) : m.kb (p : Int) = m.kh p := by
  have := sC_lt hp
  unfold DM.kb DM.kh
  rw [first5 hp, h.read (by omega), show ((sC p : Nat) : Int) + 1 = ((sC p + 1 : Nat) : Int) from by omega, h.read this]
theorem kh_same {m m' : DM} {p : Nat} (h0 : m'.hold (sC p) = m.hold (sC p)) (h1 : m'.hold (sC p + 1) = m.hold (sC p + 1)) : m'.kh p = m.kh p := by unfold DM.kh; rw [h0, h1]
structure HeldY (m : DM) (r : Int) (s : ShM) (b : List Nat) : Prop where
  ok : (s = {} ∧ b = []) ∨ (manOk s = true ∧ s.ct = chunkN b.length)
  most : b.length ≤ 640
  at_ : ∀ k, k < s.ct → ∃ inc, 1 ≤ inc ∧ inc ≤ 1099511627776 ∧ m.kh (8 * s.ar + k) = frmY r inc s k (chunkL b k)
theorem HeldY.new (r : Int) (m : DM) : HeldY m r {} [] := ⟨.inl ⟨rfl, rfl⟩, by simp, fun k hk => absurd hk (Nat.not_lt_zero _)⟩
theorem HeldY.ct8 {m : DM} {r : Int} {s : ShM} {b : List Nat} (h : HeldY m r s b) : s.ct ≤ 8 ∧ s.ar ≤ 1 := by
  rcases h.ok with ⟨rfl, _⟩ | ⟨h1, _⟩
  · exact ⟨Nat.zero_le _, Nat.zero_le _⟩
  · have := manOk_iff.1 h1
    omega
theorem HeldY.same {m m' : DM} {r : Int} {s : ShM} {b : List Nat} (h : HeldY m r s b) (hh : ∀ t, arT s.ar t → m'.hold t = m.hold t) : HeldY m' r s b :=
  ⟨h.ok, h.most, fun k hk => by
    obtain ⟨inc, h1, h2, h3⟩ := h.at_ k hk
    have := h.ct8
    exact ⟨inc, h1, h2, (kh_same (hh _ (by unfold arT sC; omega)) (hh _ (by unfold arT sC; omega))).trans h3⟩⟩
section
variable {m : DM} {pw : Int} {r : Int} {s : ShM} {b : List Nat}
theorem HeldY.good (h : HeldY m r s b) (hd : CD m pw) (hr : 0 ≤ r ∧ r ≤ 6) {k : Nat} (hk : k < s.ct) : m.chB r s k = true ∧ m.chL r s k = chunkL b k := by
  have h8 := h.ct8
  obtain ⟨inc, h1, h2, h3⟩ := h.at_ k hk
  rcases h.ok with ⟨rfl, _⟩ | ⟨hs, hc⟩
  · exact absurd hk (Nat.not_lt_zero _)
  have hf : fitsC k s.ct (chunkL b k).length = true := by rw [hc] at hk ⊢; exact split_fits h.most hk
  obtain ⟨b1, b2⟩ := frmY_back hr ⟨h1, h2⟩ hs hf
  unfold DM.chB DM.chL
  rw [hd.kb (by omega), h3]
  exact ⟨b1, b2⟩
theorem HeldY.unhurt (h : HeldY m r s b) (hd : CD m pw) (hr : 0 ≤ r ∧ r ≤ 6) : m.hurtK r s s.ct = [] := hurtK_nil.2 fun _ hk => (h.good hd hr hk).1
theorem HeldY.cat (h : HeldY m r s b) (hd : CD m pw) (hr : 0 ≤ r ∧ r ≤ 6) : m.catK r s s.ct = b := by
  have e : m.catK r s s.ct = ((List.range s.ct).map (chunkL b)).flatten := by
    unfold DM.catK
    congr 1
    exact List.map_congr_left fun k hk => (h.good hd hr (List.mem_range.1 hk)).2
  rw [e]
  rcases h.ok with ⟨rfl, rfl⟩ | ⟨_, hc⟩
  · rfl
  · rw [hc]
    exact split_flat h.most
theorem HeldY.all_ (h : HeldY m r s b) (hd : CD m pw) (hr : 0 ≤ r ∧ r ≤ 6) : m.allE r s = 0 ∧ m.allO r s = b := by
  have e : m.allE r s = 0 := by unfold DM.allE; rw [if_neg (by rw [hd.up]; simp), if_pos (h.unhurt hd hr)]
  exact ⟨e, by unfold DM.allO; rw [if_pos e]; exact h.cat hd hr⟩
end
def ManY (v : Nat) (s : ShM) : List Nat := if v = 0 then [] else manL s
structure InY (m : DM) (pw : Int) (r : Int) (s : ShM) (v : Nat) (b : List Nat) : Prop where
  cd : CD m pw
  two : TwoU r m 2 v (ManY v s)
  zero : v = 0 ↔ s.ix = 0
  held : HeldY m r s b
theorem InY.new (r : Int) : InY (DM.new 156) (-1) r {} 0 [] := ⟨CD.new, new_twoU (.inr rfl), ⟨fun _ => rfl, fun _ => rfl⟩, HeldY.new r _⟩
def DM.ldY (m : DM) (r : Int) : Int := if m.loadE r 2 ≠ 0 then m.loadE r 2 else if m.loadV r 2 = 0 then 0 else manE (m.loadB r 2)
def DM.shY (m : DM) (r : Int) : ShM := if m.loadE r 2 ≠ 0 then {} else if m.loadV r 2 = 0 then {} else manS (m.loadB r 2)
theorem LdU.shelf {m : DM} {r : Int} {v : Nat} {s : ShM} (h : LdU r m 2 v (ManY v s)) (hs : s = {} ∨ manOk s = true) (hz : v = 0 ↔ s.ix = 0) : m.ldY r = 0 ∧ m.shY r = s := by
  unfold DM.ldY DM.shY
  rw [h.e, h.v, h.b]
  simp only [ne_eq, not_true_eq_false, if_false]
  by_cases hv : v = 0
  · rw [if_pos hv, if_pos hv]
    refine ⟨rfl, ?_⟩
    rcases hs with rfl | hs
    · rfl
    · have := manOk_iff.1 hs
      have := hz.1 hv
      omega
  · have hs : manOk s = true := hs.resolve_left fun e => hv (hz.2 (by rw [e]))
    obtain ⟨h1, h2⟩ := manE_back hs
    unfold ManY
    simp only [if_neg hv]
    exact ⟨h1, h2⟩
theorem HeldY.kind {m : DM} {r : Int} {s : ShM} {b : List Nat} (h : HeldY m r s b) : s = {} ∨ manOk s = true := h.ok.imp And.left And.left
theorem cellY_far {a t : Nat} (h : arT a t) : t ≠ secV 2 0 ∧ t ≠ secV 2 1 := by
  have h0 : secV 2 0 = 2 := rfl
  have h1 : secV 2 1 = 3 := rfl
  unfold arT sC at h
  omega
theorem areaY_far {a a' t : Nat} (h : arT a t) (hn : a' = 1 - a) (h1 : a ≤ 1) : ¬ arT a' t := by
  unfold arT sC at *
  omega
def cellT (t : Nat) : Prop := t = secV 2 0 ∨ t = secV 2 1
theorem cell_first {p : Int} (h : p = 0 ∨ p = 1) : ∃ t : Nat, firstS 2 p = (t : Int) ∧ cellT t := by
  rcases h with rfl | rfl
  · exact ⟨secV 2 0, secV_first (.inr rfl) (p := 0) (by omega), .inl rfl⟩
  · exact ⟨secV 2 1, secV_first (.inr rfl) (p := 1) (by omega), .inr rfl⟩
theorem mblY_lt {x : List Nat} (h : ∀ z ∈ x, z < 256) (a b c : Int) : ∀ z ∈ mbl x a b c, z < 256 := by
  intro z hz
  unfold mbl obl bodyOf at hz
  (repeat' split at hz) <;> first | (simp at hz; done) | exact h z (List.mem_of_mem_drop (List.mem_of_mem_take hz))
theorem cellB_lt {r g : Int} {x y : List Nat} (hx : ∀ z ∈ x, z < 256) (hy : ∀ z ∈ y, z < 256) : ∀ z ∈ cellB r g x y, z < 256 := by
  intro z hz
  unfold cellB at hz
  split at hz
  · exact mblY_lt hx _ _ _ z hz
  · split at hz
    · exact mblY_lt hy _ _ _ z hz
    · cases hz
theorem cb_lt {m : DM} (h : m.Ok) (g p : Int) : ∀ z ∈ m.cb g p, z < 256 := sect_lt (read_sect h _)
theorem Tch.at_ {m : DM} {pw : Int} (hd : CD m pw) (T : Nat → Prop) : Tch m T m.hold := ⟨hd.b.ok, hd.b.size, hd.b.down, (fun z hz => by rw [hd.b.waits] at hz; cases hz), fun _ _ => rfl⟩
theorem Tch.heal {m : DM} {pw : Int} (hd : CD m pw) (r : Int) : Tch (m.heal r 2).2 cellT m.hold := by
  have h0 := Tch.at_ hd cellT
  unfold DM.heal
  split
  · exact h0
  · split
    · exact h0
    · rename_i hn
      have hc := atC_cases r 2 (m.cb 2 0) (m.cb 2 1)
      obtain ⟨t, ht, hT⟩ := cell_first (p := otherP (atC r 2 (m.cb 2 0) (m.cb 2 1))) (by unfold otherP; omega)
      rw [ht]
      exact h0.putC hT (sealL_lt (cellB_lt (cb_lt hd.b.ok _ _) (cb_lt hd.b.ok _ _)))
theorem Tch.store {m : DM} {pw : Int} (hd : CD m pw) (r c : Int) {body : List Nat} (hb : ∀ x ∈ body, x < 256) : Tch (m.store r 2 c body).2 cellT m.hold := by
  have h0 := Tch.at_ hd cellT
  unfold DM.store
  split
  · exact h0
  · have hf : firstP r 2 (m.cb 2 0) (m.cb 2 1) = 0 ∨ firstP r 2 (m.cb 2 0) (m.cb 2 1) = 1 := by unfold firstP; split <;> simp
    obtain ⟨t, ht, hT⟩ := cell_first hf
    obtain ⟨u, hu, hU⟩ := cell_first (p := otherP (firstP r 2 (m.cb 2 0) (m.cb 2 1))) (by unfold otherP; omega)
    unfold DM.puts2
    rw [ht, hu]
    have h1 := h0.putC hT (L := sealC r 2 (firstP r 2 (m.cb 2 0) (m.cb 2 1)) (m.loadV r 2 + 1) c.toNat body) (sealL_lt hb)
    split
    · exact h1
    · exact h1.putC hU (sealL_lt hb)
section
variable {m : DM} {pw : Int} {r inc : Int} {s : ShM} {v : Nat} {b : List Nat}
theorem HeldY.cell (h : HeldY m r s b) {m' : DM} (hh : ∀ t, ¬ cellT t → m'.hold t = m.hold t) : HeldY m' r s b := h.same fun t ht => hh t fun hc => by
  have := cellY_far ht
  unfold cellT at hc
  omega
theorem SomeU.openY (h : SomeU r m 2 v (ManY v s)) (hd : CD m (-1)) (hh : HeldY m r s b) (hz : v = 0 ↔ s.ix = 0) : m.ldY r = 0 ∧ m.shY r = s ∧ ∃ m', m.heal r 2 = (0, m') ∧ InY m' (-1) r s v b := by
  obtain ⟨h1, h2⟩ := (hd.ldU (.inr rfl) h.ldd).shelf hh.kind hz
  refine ⟨h1, h2, ?_⟩
  have hT := Tch.heal hd r
  rcases h.heal hd (.inr rfl) with ⟨e, ht⟩ | ⟨t, L, ht, hL, e, hk⟩
  · exact ⟨m, e, hd, ht, hz, hh⟩
  · obtain ⟨m', e2, c2, g2⟩ := hd.put2 (.inl rfl) ht hL
    rw [e, e2] at hT
    exact ⟨m', e.trans e2, c2, hk m' g2, hz, hh.cell hT.hold⟩
theorem HeldY.put (hs : manOk s = true) (hb : b.length ≤ 640) (hlt : ∀ x ∈ b, x < 256) (hct : s.ct = chunkN b.length) (hr : 0 ≤ r ∧ r ≤ 6) (hc : 1 ≤ inc ∧ inc ≤ 1099511627776) {h0 : Nat → List Nat} (hh : ∀ t, m.hold t = (lastW (prsY r inc s 0 (splitL b)) t).getD (h0 t)) : HeldY m r s b := by
  refine ⟨.inr ⟨hs, hct⟩, hb, fun k hk => ⟨inc, hc.1, hc.2, ?_⟩⟩
  have hm := manOk_iff.1 hs
  have hkc : k < chunkN b.length := by omega
  obtain ⟨g1, g2⟩ := prsY_get (r := r) (inc := inc) (s := s) (splitL b) 0 k (by rw [splitL_len]; omega)
  have hg : (splitL b).getD k [] = chunkL b k := by rw [List.getD_eq_getElem?_getD, splitL_get hkc]; rfl
  rw [Nat.zero_add, hg] at g1 g2
  obtain ⟨_, _, sp⟩ := frmY_sects (r := r) (inc := inc) (s := s) (k := k) (c := chunkL b k) hr hc hs (by omega) (by rw [chunkL_len]; omega) fun x hx => hlt x (List.mem_of_mem_drop (List.mem_of_mem_take hx))
  unfold DM.kh
  rw [hh, hh, g1, g2]
  exact sp
theorem split_each {b : List Nat} (hlt : ∀ x ∈ b, x < 256) : ∀ c ∈ splitL b, c.length ≤ 80 ∧ ∀ x ∈ c, x < 256 := fun c hc => by
  unfold splitL at hc
  obtain ⟨k, _, rfl⟩ := List.mem_map.1 hc
  exact ⟨by rw [chunkL_len]; omega, fun x hx => hlt x (List.mem_of_mem_drop (List.mem_of_mem_take hx))⟩
theorem nextY_ok {i : Nat} (hs : s = {} ∨ manOk s = true) (hi : s.ix < i ∧ i ≤ 1099511627752) (hb : b.length ≤ 640) : manOk (nextY s i (chunkN b.length)) = true := by
  have hn := chunkN_in hb
  have ha : s.ar ≤ 1 := by
    rcases hs with rfl | hs
    · exact Nat.zero_le _
    · exact (manOk_iff.1 hs).2.2.1
  refine manOk_iff.2 ⟨by show 1 ≤ i; omega, hi.2, ?_, hn.1, hn.2.1⟩
  show (if s.ix = 0 then 0 else 1 - s.ar) ≤ 1
  split <;> omega
theorem InY.install (h : InY m pw r s v b) (hp : -1 ≤ pw) (hr : 0 ≤ r ∧ r ≤ 6) (hc : 1 ≤ inc ∧ inc ≤ 1099511627776) (hv : v < 1099511627776) {i : Nat} (hi : s.ix < i ∧ i ≤ 1099511627752) {c : List Nat} (hn : c.length ≤ 640) (hlt : ∀ x ∈ c, x < 256) :
    ∃ m', (m.putY r inc (nextY s i (chunkN c.length)) (splitL c) = (0, m') ∧ ∃ q, -1 ≤ q ∧ (pw = -1 → q = -1) ∧ InY m' q r (nextY s i (chunkN c.length)) (v + 1) c) ∨
      (pw ≠ -1 ∧ m.putY r inc (nextY s i (chunkN c.length)) (splitL c) = (5, m') ∧ After m' fun n => (SomeU r n 2 v (ManY v s) ∧ HeldY n r s b) ∨ (SomeU r n 2 (v + 1) (manL (nextY s i (chunkN c.length))) ∧ HeldY n r (nextY s i (chunkN c.length)) c)) := by
  have hok := nextY_ok h.held.kind hi hn
  have h8 := (chunkN_in hn).2.1
  have ha := h.held.ct8.2
  have har : s.ix ≠ 0 → (nextY s i (chunkN c.length)).ar = 1 - s.ar := fun hx => if_neg hx
  have hct : (nextY s i (chunkN c.length)).ct = chunkN c.length := rfl
  have hlen : 0 + (splitL c).length ≤ 8 := by rw [splitL_len]; omega
  generalize nextY s i (chunkN c.length) = s' at hok har hct ⊢
  have old : ∀ n : DM, (∀ t, ¬ arT s'.ar t → n.hold t = m.hold t) → HeldY n r s b := fun n hn => by
    by_cases hx : s.ix = 0
    · rcases h.held.ok with ⟨rfl, rfl⟩ | ⟨hs, _⟩
      · exact HeldY.new r n
      · have := manOk_iff.1 hs; omega
    · exact h.held.same fun t ht => hn t (areaY_far ht (har hx) ha)
  have man : ∀ n : DM, (∀ t, ¬ arT s'.ar t → n.hold t = m.hold t) → TwoU r n 2 v (ManY v s) := fun n hn => h.two.of_eq (hn _ fun ht => (cellY_far ht).1 rfl) (hn _ fun ht => (cellY_far ht).2 rfl)
  have hT := Tch.wrY (r := r) (inc := inc) h.cd hok hlen fun c' hc' => (split_each hlt c' hc').2
  unfold DM.putY
  rcases h.cd.wrY (r := r) (inc := inc) hp hr hc hok hlen (split_each hlt) with ⟨m1, q, e1, hq, hpq, c1, g1⟩ | ⟨hne, e1⟩
  · rw [e1] at hT
    have t1 := man m1 hT.hold
    have o1 := old m1 hT.hold
    have n1 : HeldY m1 r s' c := HeldY.put hok hn hlt hct hr hc g1
    have sT := Tch.store c1 r inc (manL_lt s')
    rw [e1, if_neg (by simp)]
    obtain ⟨m2, h2 | ⟨hne, e2, h2⟩⟩ := t1.storing2 (by omega) c1 hq hv hc (body := manL s') (by rw [manL_len]; omega) (manL_lt s')
    · obtain ⟨e2, q2, hq2, hpq2, c2, t2⟩ := h2
      show ∃ m', (m1.store r 2 inc (manL s') = (0, m') ∧ _) ∨ _
      rw [e2] at sT
      have hm := manOk_iff.1 hok
      exact ⟨m2, .inl ⟨e2, q2, hq2, fun e => hpq2 (hpq e), c2, by unfold ManY; rw [if_neg (by omega)]; exact t2, ⟨fun e => by omega, fun e => by omega⟩, n1.cell sT.hold⟩⟩
    · show ∃ m', (m1.store r 2 inc (manL s') = (0, m') ∧ _) ∨ (_ ∧ m1.store r 2 inc (manL s') = (5, m') ∧ _)
      rw [e2] at sT
      refine ⟨m2, .inr ⟨fun e => hne (hpq e), e2, fun keep => ?_⟩⟩
      obtain ⟨k1, k2, k3, k4⟩ := h2 keep
      obtain ⟨_, _, _, k5⟩ := sT.again keep
      refine ⟨k1, k2, k3, ?_⟩
      rcases k4 with k4 | k4
      · exact .inl ⟨k4, o1.cell k5⟩
      · exact .inr ⟨k4, n1.cell k5⟩
  · obtain ⟨⟨E, m1⟩, hx⟩ : ∃ x, m.wrY r inc s' 0 (splitL c) = x := ⟨_, rfl⟩
    rw [hx] at e1 hT ⊢
    have e1 : E = 5 := e1
    subst e1
    rw [if_pos (by simp)]
    refine ⟨m1, .inr ⟨hne, rfl, fun keep => ?_⟩⟩
    obtain ⟨k1, k2, k3, k4⟩ := hT.again keep
    exact ⟨k1, k2, k3, .inl ⟨two_someU (man _ k4), old _ k4⟩⟩
end
end
section
open Go Go.RowKit
theorem heap_extE {w w' : World} {g : Nat} {o : Obj} (h : w.heap[g]? = some o) (k : Ext w w') : w'.heap[g]? = some o := (k.block g (Array.getElem?_eq_some_iff.1 h).1).trans h
end
section
open Go Go.RowKit
structure RdS (w : World) (g : Nat) (A : Option Addr) (n c : Nat) (l : List Nat) (a : Nat) (sh : Bool) : Prop where
  row : w.heap[g]? = some (.cells #[.slice A n c, .int .i64 (a : Int), .bool sh] 332 (0, 0))
  by_ : By w A n c l
  off : 0 < n → ∀ p, A = some p → p.block ≠ g
  le : a ≤ l.length
  most : n ≤ 9000000000000000000
  laid : Laid w
section
variable {w w' : World} {g n c a : Nat} {A : Option Addr} {l : List Nat} {sh : Bool}
theorem RdS.lt (h : RdS w g A n c l a sh) : g < w.heap.size := (Array.getElem?_eq_some_iff.1 h.row).1
theorem by_mod {G : Nat → Prop} (h : By w A n c l) (k : Mod G w w') (ho : 0 < n → ∀ p, A = some p → ¬ G p.block) : By w' A n c l := by
  by_cases h0 : 0 < n
  · exact By.mod h k fun p hp => ho h0 p hp
  · refine ⟨h.len, h.cap, h.most, ⟨h.rd.1, fun hn => ?_⟩, Bs.nil_ h⟩
    have := h.len
    omega
theorem laid_mod {G : Nat → Prop} (h : Laid w) (k : Mod G w w') (hg : ¬ G 4) : Laid w' := by
  have hlt : 4 < w.heap.size := World.block_lt_of_cell? w _ h.1
  have hb := k.block _ hlt hg
  unfold Laid at h ⊢
  obtain ⟨h0, h1, h2, h3, h4, h5, h6⟩ := h
  exact ⟨(World.cell?_of_block (a := ⟨_, _, none⟩) hb).trans h0, (World.cell?_of_block (a := ⟨_, _, none⟩) hb).trans h1, (World.cell?_of_block (a := ⟨_, _, none⟩) hb).trans h2, (World.cell?_of_block (a := ⟨_, _, none⟩) hb).trans h3, (World.cell?_of_block (a := ⟨_, _, none⟩) hb).trans h4, (World.cell?_of_block (a := ⟨_, _, none⟩) hb).trans h5, (World.cell?_of_block (a := ⟨_, _, none⟩) hb).trans h6⟩
theorem RdS.glob (h : RdS w g A n c l a sh) : 4 ≠ g := by
  intro e
  have h1 := h.laid.1
  have h2 := cell_of_row w g 0 _ _ _ h.row
  rw [← e] at h2
  have h3 := h1.symm.trans h2
  simp at h3
theorem RdS.step {a' : Nat} {sh' : Bool} (h : RdS w g A n c l a sh) (k : Mod (fun i => i = g) w w') (hr : w'.heap[g]? = some (.cells #[.slice A n c, .int .i64 (a' : Int), .bool sh'] 332 (0, 0))) (hle : a' ≤ l.length) : RdS w' g A n c l a' sh' :=
  ⟨hr, by_mod h.by_ k h.off, h.off, hle, h.most, laid_mod h.laid k h.glob⟩
theorem RdS.ext (h : RdS w g A n c l a sh) (k : Ext w w') : RdS w' g A n c l a sh :=
  ⟨(k.block g h.lt).trans h.row, h.by_.ext k, h.off, h.le, h.most, h.laid.ext k⟩
theorem RdS.mod {G : Nat → Prop} (h : RdS w g A n c l a sh) (k : Mod G w w') (hG : ∀ i, G i → w.heap.size ≤ i) : RdS w' g A n c l a sh := h.ext (k.to_ext hG)
end
theorem rdr_set {w : World} {g i : Nat} {cs : Array Value} {t : TypeId} (h : w.heap[g]? = some (.cells cs t (0, 0))) (v : Value) : (w.setCell ⟨g, i, none⟩ v).heap[g]? = some (.cells (cs.setIfInBounds i v) t (0, 0)) := by
  rw [setCell_eq_setRow w g i _ _ _ v h]
  exact setRow_heap w g _ (cs.setIfInBounds i v) _ _ h
theorem mod_set {w : World} (g i : Nat) (v : Value) : Mod (fun k => k = g) w (w.setCell ⟨g, i, none⟩ v) := Mod.setCell (F := fun k => k = g) (Mod.refl (fun k => k = g) w) (p := ⟨g, i, none⟩) (.inl rfl) v
end
section
open Go Go.RowKit
structure RdB (B g : Nat) (A : Option Addr) (n : Nat) : Prop where
  g : g < B
  a : 0 < n → ∀ p, A = some p → p.block < B
  o : 4 < B
theorem RdS.base {w : World} {g n c a : Nat} {A : Option Addr} {l : List Nat} {sh : Bool} (h : RdS w g A n c l a sh) : RdB w.heap.size g A n :=
  ⟨h.lt, fun hn p hp => by
    obtain ⟨g', o, e, hg, _⟩ := h.by_.rd.2 (by rw [h.by_.len]; exact hn)
    rw [hp] at e
    injection e with e
    rw [e]
    exact hg, World.block_lt_of_cell? w _ h.laid.1⟩
theorem RdS.other {w w' : World} {g n c a B : Nat} {A : Option Addr} {l : List Nat} {sh : Bool} {G : Nat → Prop} (h : RdS w g A n c l a sh) (hb : RdB B g A n) (k : Mod G w w') (hG : ∀ i, G i → B ≤ i) : RdS w' g A n c l a sh :=
  ⟨heap_mod h.row k fun hg => absurd (hG _ hg) (Nat.not_le.2 hb.g), by_mod h.by_ k fun hn p hp hg => absurd (hG _ hg) (Nat.not_le.2 (hb.a hn p hp)), h.off, h.le, h.most, laid_mod h.laid k fun hg => absurd (hG _ hg) (Nat.not_le.2 hb.o)⟩
structure OpS (w : World) (g : Nat) (A : Option Addr) (n c : Nat) (l : List Nat) (g2 g3 : Nat) (x0 x1 x2 x3 : Value) (a : Nat) (sh : Bool) (w' : World) : Prop where
  rd : RdS w' g A n c l a sh
  base : RdB w.heap.size g A n
  res : w'.heap[g2]? = some (.cells #[.int .u8 0, .string ⟨#[]⟩, .string ⟨#[]⟩, .string ⟨#[]⟩] 40 (0, 0))
  own : w'.heap[g3]? = some (.cells #[x0, x1, x2, x3] 323 (0, 0))
  ge : w.heap.size ≤ g2 ∧ w.heap.size ≤ g3 ∧ g2 ≠ g3
  mod : Mod (fun i => i = g) w w'
section
variable {w w' w2 : World} {g n c a g2 g3 : Nat} {A : Option Addr} {l : List Nat} {x0 x1 x2 x3 : Value} {sh : Bool}
theorem OpS.ext (h : OpS w g A n c l g2 g3 x0 x1 x2 x3 a sh w') (k : Ext w' w2) : OpS w g A n c l g2 g3 x0 x1 x2 x3 a sh w2 :=
  ⟨h.rd.ext k, h.base, heap_extE h.res k, heap_extE h.own k, h.ge, h.mod.ext k⟩
theorem OpS.step {a' : Nat} {sh' : Bool} (h : OpS w g A n c l g2 g3 x0 x1 x2 x3 a sh w') (k : Mod (fun i => i = g) w' w2) (hr : RdS w2 g A n c l a' sh') : OpS w g A n c l g2 g3 x0 x1 x2 x3 a' sh' w2 :=
  ⟨hr, h.base, heap_mod h.res k (by have := h.base.g; have := h.ge; omega), heap_mod h.own k (by have := h.base.g; have := h.ge; omega), h.ge, Mod.trans (F := fun i => i = g) h.mod k fun _ hi => .inl hi⟩
theorem OpS.put2 (h : OpS w g A n c l g2 g3 x0 x1 x2 x3 a sh w') (v : Value) : OpS w g A n c l g2 g3 x0 x1 v x3 a sh (w'.setCell ⟨g3, 2, none⟩ v) :=
  ⟨h.rd.other h.base (mod_set g3 2 v) fun i hi => by subst hi; exact h.ge.2.1, h.base, heap_mod h.res (mod_set g3 2 v) h.ge.2.2, rdr_set h.own v, h.ge, Mod.setCell (F := fun i => i = g) h.mod (.inr h.ge.2.1) v⟩
end
end
section
open Go Go.RowKit
structure EnW (w : World) (g : Nat) (A : Option Addr) (n c : Nat) (l : List Nat) (g2 g3 : Nat) (cs : Array Value) (a : Nat) (sh : Bool) (w' : World) : Prop where
  rd : RdS w' g A n c l a sh
  base : RdB w.heap.size g A n
  res : w'.heap[g2]? = some (.cells #[.int .u8 0, .int .i64 0, .int .i64 0, .int .u8 0, .string ⟨#[]⟩, .string ⟨#[]⟩, .string ⟨#[]⟩] 42 (0, 0))
  own : w'.heap[g3]? = some (.cells cs 42 (0, 0))
  ge : w.heap.size ≤ g2 ∧ w.heap.size ≤ g3 ∧ g2 ≠ g3
  mod : Mod (fun i => i = g) w w'
section
variable {w w' w2 : World} {g n c a g2 g3 : Nat} {A : Option Addr} {l : List Nat} {cs : Array Value} {sh : Bool}
theorem EnW.step {a' : Nat} {sh' : Bool} (h : EnW w g A n c l g2 g3 cs a sh w') (k : Mod (fun i => i = g) w' w2) (hr : RdS w2 g A n c l a' sh') : EnW w g A n c l g2 g3 cs a' sh' w2 :=
  ⟨hr, h.base, heap_mod h.res k (by have := h.base.g; have := h.ge; omega), heap_mod h.own k (by have := h.base.g; have := h.ge; omega), h.ge, Mod.trans (F := fun i => i = g) h.mod k fun _ hi => .inl hi⟩
theorem EnW.put (h : EnW w g A n c l g2 g3 cs a sh w') (i : Nat) (v : Value) {ds : Array Value} (hd : ds = cs.setIfInBounds i v) : EnW w g A n c l g2 g3 ds a sh (w'.setCell ⟨g3, i, none⟩ v) :=
  ⟨h.rd.other h.base (mod_set g3 i v) fun i hi => by subst hi; exact h.ge.2.1, h.base, heap_mod h.res (mod_set g3 i v) h.ge.2.2, hd ▸ rdr_set h.own v, h.ge, Mod.setCell (F := fun i => i = g) h.mod (.inr h.ge.2.1) v⟩
end
end
section
open Go Go.RowKit
theorem ext_cellE {w w' : World} {p : Addr} {v : Value} (k : Ext w w') (h : w.cell? p = some v) : w'.cell? p = some v := (Below.cell k (World.block_lt_of_cell? w _ h)).trans h
def EBS (W : World) (g : Nat) (cl sq : Int) (ok : Nat) (key old val : ByteArray) (w' : World) : Prop :=
  w'.cell? ⟨g, 1, none⟩ = some (.int .i64 cl) ∧ w'.cell? ⟨g, 2, none⟩ = some (.int .i64 sq) ∧ w'.cell? ⟨g, 3, none⟩ = some (.int .u8 (ok : Int)) ∧ w'.cell? ⟨g, 4, none⟩ = some (.string key) ∧ w'.cell? ⟨g, 5, none⟩ = some (.string old) ∧ w'.cell? ⟨g, 6, none⟩ = some (.string val) ∧ Hid (Ext W w')
theorem EBS.mono {W w w' : World} {g ok : Nat} {cl sq : Int} {key old val : ByteArray} (h : EBS W g cl sq ok key old val w) (k : Ext w w') : EBS W g cl sq ok key old val w' := by
  obtain ⟨h0, h1, h2, h3, h4, h5, hE⟩ := h
  exact ⟨ext_cellE k h0, ext_cellE k h1, ext_cellE k h2, ext_cellE k h3, ext_cellE k h4, ext_cellE k h5, Lib.hid (hE.out.trans k)⟩
theorem EBS.ext {W w : World} {g ok : Nat} {cl sq : Int} {key old val : ByteArray} (h : EBS W g cl sq ok key old val w) : Ext W w := h.2.2.2.2.2.2.out
theorem digs_byte {n : Nat} (h : n < 256) : digs 1 n = [n] := by simp [digs]; omega
theorem fits_byte {n : Nat} (h : n < 256) : fitsB (1 : Nat) n = true := fits_iff.2 ⟨rfl, by omega, by simpa using h⟩
theorem fits_six {n : Nat} (h : n ≤ 1099511627776) : fitsB (6 : Nat) n = true := fits_iff.2 ⟨rfl, by omega, by simp; omega⟩
def EPS (W : World) (g : Nat) (x y : Int) (w' : World) : Prop :=
  w'.cell? ⟨g, 0, none⟩ = some (.int .i64 x) ∧ w'.cell? ⟨g, 1, none⟩ = some (.int .i64 y) ∧ Hid (Ext W w')
theorem EPS.mono {W w w' : World} {g : Nat} {x y : Int} (h : EPS W g x y w) (k : Ext w w') : EPS W g x y w' := by
  obtain ⟨h0, h1, hE⟩ := h
  exact ⟨ext_cellE k h0, ext_cellE k h1, Lib.hid (hE.out.trans k)⟩
theorem EPS.ext {W w : World} {g : Nat} {x y : Int} (h : EPS W g x y w) : Ext W w := h.2.2.out
end
section
open Go Go.RowKit
def LaidT3 (w : World) : Prop := w.cell? ⟨0, 0, none⟩ = some (.int .i64 6) ∧ w.cell? ⟨0, 1, none⟩ = some (.int .i64 1) ∧ w.cell? ⟨0, 2, none⟩ = some (.int .i64 1)
structure LaidS (w : World) : Prop where
  o : Laid w
  t : LaidT3 w
theorem LaidT3.ext {a b : World} (h : LaidT3 a) (k : Ext a b) : LaidT3 b := by
  have hlt : 0 < a.heap.size := World.block_lt_of_cell? a _ h.1
  obtain ⟨h0, h1, h2⟩ := h
  exact ⟨(Below.cell k (p := ⟨0, 0, none⟩) hlt).trans h0, (Below.cell k (p := ⟨0, 1, none⟩) hlt).trans h1, (Below.cell k (p := ⟨0, 2, none⟩) hlt).trans h2⟩
theorem LaidS.ext {a b : World} (h : LaidS a) (k : Ext a b) : LaidS b := ⟨h.o.ext k, h.t.ext k⟩
end
section
open Go Go.RowKit
theorem keep_row {u w' : World} {g : Nat} {ob : Obj} (k : Ext u w') (h : u.heap[g]? = some ob) : w'.heap[g]? = some ob := (k.block g (Array.getElem?_eq_some_iff.1 h).1).trans h
end
section
open Go Go.RowKit
theorem By.none_ (w : World) : By w none 0 0 [] := ⟨rfl, Nat.le_refl _, by omega, Rd.nil_, fun _ => rfl⟩
theorem idx_three (a b c : Int) (w : World) : (Instr.index 221 (.agg #[.int .i64 a, .int .i64 b, .int .i64 c]) (.int .i64 0)).run Tryz.prog w = .ok (.int .i64 a) w ∧ (Instr.index 221 (.agg #[.int .i64 a, .int .i64 b, .int .i64 c]) (.int .i64 1)).run Tryz.prog w = .ok (.int .i64 b) w ∧ (Instr.index 221 (.agg #[.int .i64 a, .int .i64 b, .int .i64 c]) (.int .i64 2)).run Tryz.prog w = .ok (.int .i64 c) w := by
  refine ⟨?_, ?_, ?_⟩ <;> kernel_rfl
theorem sput6 (n : Nat) (w : World) (hL : Laid w) (hn : n ≤ 1099511627776) :
    Calls Tryz.prog 141 #[.int .i64 6, .int .i64 (n : Int)] w fun e w' => ∃ A' c', e = .returned (.tuple #[.slice A' 6 c', .int .i64 0]) ∧ By w' A' 6 c' (digs 6 n) ∧ Ext w w' := put_by 6 n w hL (fits_six hn)
theorem sput1 (n : Nat) (w : World) (hL : Laid w) (hn : n < 256) :
    Calls Tryz.prog 141 #[.int .i64 1, .int .i64 (n : Int)] w fun e w' => ∃ A' c', e = .returned (.tuple #[.slice A' 1 c', .int .i64 0]) ∧ By w' A' 1 c' [n] ∧ Ext w w' := by
  have h := put_by 1 n w hL (fits_byte hn)
  rw [digs_byte hn] at h
  exact h
theorem sjoin1 {A1 A2 : Option Addr} {c1 c2 : Nat} {l2 : List Nat} (w : World) (h1 : By w A1 0 c1 []) (h2 : By w A2 6 c2 l2) :
    Calls Tryz.prog 133 #[.slice (some ⟨w.heap.size, 0, none⟩) 2 2] (w.alloc (.cells #[.slice A1 0 c1, .slice A2 6 c2] 45)) fun e w' => ∃ A' c', e = .returned (.slice A' 6 c') ∧ By w' A' 6 c' l2 ∧ Ext w w' := join2_by w h1 h2 (by omega)
theorem sjoin2 {A1 A2 : Option Addr} {c1 c2 : Nat} {l1 l2 : List Nat} (w : World) (h1 : By w A1 6 c1 l1) (h2 : By w A2 1 c2 l2) :
    Calls Tryz.prog 133 #[.slice (some ⟨w.heap.size, 0, none⟩) 2 2] (w.alloc (.cells #[.slice A1 6 c1, .slice A2 1 c2] 45)) fun e w' => ∃ A' c', e = .returned (.slice A' 7 c') ∧ By w' A' 7 c' (l1 ++ l2) ∧ Ext w w' := join2_by w h1 h2 (by omega)
theorem sjoin3 {A1 A2 : Option Addr} {c1 c2 : Nat} {l1 l2 : List Nat} (w : World) (h1 : By w A1 7 c1 l1) (h2 : By w A2 1 c2 l2) :
    Calls Tryz.prog 133 #[.slice (some ⟨w.heap.size, 0, none⟩) 2 2] (w.alloc (.cells #[.slice A1 7 c1, .slice A2 1 c2] 45)) fun e w' => ∃ A' c', e = .returned (.slice A' 8 c') ∧ By w' A' 8 c' (l1 ++ l2) ∧ Ext w w' := join2_by w h1 h2 (by omega)
end
section
open Go Go.RowKit
def setL (w : World) (g : Nat) : Nat → List Value → World
  | _, [] => w
  | o, x :: xs => setL (w.setCell ⟨g, o, none⟩ x) g (o + 1) xs
def setA (cs : Array Value) : Nat → List Value → Array Value
  | _, [] => cs
  | o, x :: xs => setA (cs.setIfInBounds o x) (o + 1) xs
theorem row_set1 {w : World} {g i : Nat} {cs : Array Value} {t : TypeId} (h : w.heap[g]? = some (.cells cs t (0, 0))) (v : Value) : (w.setCell ⟨g, i, none⟩ v).heap[g]? = some (.cells (cs.setIfInBounds i v) t (0, 0)) := by
  rw [setCell_eq_setRow w g i _ _ _ v h]
  exact setRow_heap w g _ (cs.setIfInBounds i v) _ _ h
theorem row_setL {g : Nat} {t : TypeId} : ∀ (xs : List Value) (w : World) (o : Nat) (cs : Array Value), w.heap[g]? = some (.cells cs t (0, 0)) → (setL w g o xs).heap[g]? = some (.cells (setA cs o xs) t (0, 0))
  | [], _, _, _, h => h
  | x :: xs, _, o, _, h => row_setL xs _ (o + 1) _ (row_set1 h x)
theorem mod_setL {g : Nat} : ∀ (xs : List Value) (w : World) (o : Nat), Mod (fun k => k = g) w (setL w g o xs)
  | [], w, _ => Mod.refl (fun k => k = g) w
  | x :: xs, w, o => Mod.trans (F := fun k => k = g) (Mod.setCell (F := fun k => k = g) (Mod.refl (fun k => k = g) w) (p := ⟨g, o, none⟩) (.inl rfl) x) (mod_setL xs _ (o + 1)) fun _ hi => .inl hi
theorem ext_setL {a w : World} (h : Ext a w) {g : Nat} (hg : a.heap.size ≤ g) (xs : List Value) (o : Nat) : Ext a (setL w g o xs) :=
  Mod.to_ext (Mod.trans (F := fun k => k = g) (Mod.of_ext (F := fun k => k = g) h) (mod_setL xs w o) fun _ hi => .inl hi) fun i hi => by subst hi; exact hg
theorem off_setL {w : World} {g k : Nat} {ob : Obj} (h : w.heap[k]? = some ob) (hk : k ≠ g) (xs : List Value) (o : Nat) : (setL w g o xs).heap[k]? = some ob :=
  ((mod_setL (g := g) xs w o).block k (Array.getElem?_eq_some_iff.1 h).1 hk).trans h
end
section
open Go Go.RowKit
theorem tower11 (w : World) (g : Nat) (x0 x1 x2 x3 x4 x5 x6 x7 x8 x9 x10 : Value) : (((((((((((w.setCell ⟨g, 0, none⟩ (x0)).setCell ⟨g, 1, none⟩ (x1)).setCell ⟨g, 2, none⟩ (x2)).setCell ⟨g, 3, none⟩ (x3)).setCell ⟨g, 4, none⟩ (x4)).setCell ⟨g, 5, none⟩ (x5)).setCell ⟨g, 6, none⟩ (x6)).setCell ⟨g, 7, none⟩ (x7)).setCell ⟨g, 8, none⟩ (x8)).setCell ⟨g, 9, none⟩ (x9)).setCell ⟨g, 10, none⟩ (x10)) = setL w g 0 [x0, x1, x2, x3, x4, x5, x6, x7, x8, x9, x10] := by
  simp only [setL, Nat.zero_add, Nat.reduceAdd]
theorem arr11 (x0 x1 x2 x3 x4 x5 x6 x7 x8 x9 x10 z0 z1 z2 z3 z4 z5 z6 z7 z8 z9 z10 : Value) : setA #[z0, z1, z2, z3, z4, z5, z6, z7, z8, z9, z10] 0 [x0, x1, x2, x3, x4, x5, x6, x7, x8, x9, x10] = #[x0, x1, x2, x3, x4, x5, x6, x7, x8, x9, x10] := by
  simp only [setA, List.setIfInBounds_toArray, List.set_cons_zero, List.set_cons_succ, Nat.zero_add, Nat.reduceAdd]
theorem row11 {w : World} {g : Nat} {t : TypeId} {z0 z1 z2 z3 z4 z5 z6 z7 z8 z9 z10 : Value} (h : w.heap[g]? = some (.cells #[z0, z1, z2, z3, z4, z5, z6, z7, z8, z9, z10] t (0, 0))) (x0 x1 x2 x3 x4 x5 x6 x7 x8 x9 x10 : Value) :
    ((((((((((((w.setCell ⟨g, 0, none⟩ (x0)).setCell ⟨g, 1, none⟩ (x1)).setCell ⟨g, 2, none⟩ (x2)).setCell ⟨g, 3, none⟩ (x3)).setCell ⟨g, 4, none⟩ (x4)).setCell ⟨g, 5, none⟩ (x5)).setCell ⟨g, 6, none⟩ (x6)).setCell ⟨g, 7, none⟩ (x7)).setCell ⟨g, 8, none⟩ (x8)).setCell ⟨g, 9, none⟩ (x9)).setCell ⟨g, 10, none⟩ (x10))).heap[g]? = some (.cells #[x0, x1, x2, x3, x4, x5, x6, x7, x8, x9, x10] t (0, 0)) := by
  rw [tower11]
  have h2 := row_setL [x0, x1, x2, x3, x4, x5, x6, x7, x8, x9, x10] w 0 _ h
  rw [arr11] at h2
  exact h2
theorem off11 {w : World} {g k : Nat} {ob : Obj} (h : w.heap[k]? = some ob) (hk : k ≠ g) (x0 x1 x2 x3 x4 x5 x6 x7 x8 x9 x10 : Value) : ((((((((((((w.setCell ⟨g, 0, none⟩ (x0)).setCell ⟨g, 1, none⟩ (x1)).setCell ⟨g, 2, none⟩ (x2)).setCell ⟨g, 3, none⟩ (x3)).setCell ⟨g, 4, none⟩ (x4)).setCell ⟨g, 5, none⟩ (x5)).setCell ⟨g, 6, none⟩ (x6)).setCell ⟨g, 7, none⟩ (x7)).setCell ⟨g, 8, none⟩ (x8)).setCell ⟨g, 9, none⟩ (x9)).setCell ⟨g, 10, none⟩ (x10))).heap[k]? = some ob := by
  rw [tower11]
  exact off_setL h hk _ _
theorem ext11 {a w : World} (h : Ext a w) {g : Nat} (hg : a.heap.size ≤ g) (x0 x1 x2 x3 x4 x5 x6 x7 x8 x9 x10 : Value) : Ext a ((((((((((((w.setCell ⟨g, 0, none⟩ (x0)).setCell ⟨g, 1, none⟩ (x1)).setCell ⟨g, 2, none⟩ (x2)).setCell ⟨g, 3, none⟩ (x3)).setCell ⟨g, 4, none⟩ (x4)).setCell ⟨g, 5, none⟩ (x5)).setCell ⟨g, 6, none⟩ (x6)).setCell ⟨g, 7, none⟩ (x7)).setCell ⟨g, 8, none⟩ (x8)).setCell ⟨g, 9, none⟩ (x9)).setCell ⟨g, 10, none⟩ (x10))) := by
  rw [tower11]
  exact ext_setL h hg _ _
end
section
open Go Go.RowKit
theorem cknown_of {w : World} {p : Option Addr} {sz : Nat} (hS : Sized w p sz) (hL : LaidT w) (r g : Int) :
    Calls Tryz.prog 176 #[.pointer p, .int .i64 r, .int .i64 g] w fun e w' => e = .returned (.int .i64 (knownC sz r g)) ∧ Ext w w' := by
  have HS := Lib.hid hS
  have HL := Lib.hid hL
  clear hS hL
  by_cases h0 : sz = 0
  · have HE : Hid (knownC sz r g = 1) := Lib.hid (by unfold knownC; rw [if_pos h0])
    have h1 : ((sz : Int) == 0) = true := by simp [h0]
    clear h0
    go_enter Tryz.func176, Tryz.ntmps176
    go_wp2_with fail
    refine (HS.out _ (Ext.refl _)).mono ?_
    rintro e w1 ⟨rfl, rfl⟩
    go_wp2_with fail
    go_ret
    exact ⟨by rw [HE.out]; rfl, Ext.refl _⟩
  have h1 : ((sz : Int) == 0) = false := by simp; omega
  obtain ⟨E, hE⟩ : ∃ E, knownC sz r g = E := ⟨_, rfl⟩
  have HE := Lib.hid hE
  by_cases h2 : sz < 156
  · have hE2 : knownC sz r g = 2 := by unfold knownC; rw [if_neg h0, if_pos (.inl h2)]
    rw [hE2] at hE
    subst hE
    clear hE2 h0
    go_enter Tryz.func176, Tryz.ntmps176
    go_wp2_with fail
    refine (HS.out _ (Ext.refl _)).mono ?_
    rintro e w1 ⟨rfl, rfl⟩
    go_wp2_with fail
    refine (HS.out _ (Ext.refl _)).mono ?_
    rintro e w1 ⟨rfl, rfl⟩
    go_wp2_with fail
    refine (all_any _ HL.out).mono ?_
    rintro e w1 ⟨rfl, hx⟩
    have HX := Lib.hid hx
    clear hx
    go_wp2_with fail
    go_ret
    exact ⟨by rw [HE.out]; rfl, HX.out⟩
  by_cases hg : g = 1 ∨ g = 2
  · have hg' : ¬ (g ≠ 1 ∧ g ≠ 2) := by omega
    have q : ((g != 1) && (g != 2)) = false := by rcases hg with rfl | rfl <;> rfl
    rcases hg with rfl | rfl
    · clear q hg' 
      by_cases h3 : r < 0
      · have hE2 : knownC sz r 1 = 2 := by unfold knownC; rw [if_neg h0, if_pos (.inr (.inr (.inl h3)))]
        rw [hE2] at hE
        subst hE
        clear hE2 h0
        go_enter Tryz.func176, Tryz.ntmps176
        go_wp2_with fail
        refine (HS.out _ (Ext.refl _)).mono ?_
        rintro e w1 ⟨rfl, rfl⟩
        go_wp2_with fail
        refine (HS.out _ (Ext.refl _)).mono ?_
        rintro e w1 ⟨rfl, rfl⟩
        go_wp2_with fail
        refine (all_any _ HL.out).mono ?_
        rintro e w1 ⟨rfl, hx⟩
        have HX := Lib.hid hx
        clear hx
        go_wp2_with fail
        go_ret
        exact ⟨by rw [HE.out]; rfl, HX.out⟩
      by_cases h4 : 7 ≤ r
      · have hE2 : knownC sz r 1 = 2 := by unfold knownC; rw [if_neg h0, if_pos (.inr (.inr (.inr h4)))]
        rw [hE2] at hE
        subst hE
        clear hE2 h0
        go_enter Tryz.func176, Tryz.ntmps176
        go_wp2_with fail
        refine (HS.out _ (Ext.refl _)).mono ?_
        rintro e w1 ⟨rfl, rfl⟩
        go_wp2_with fail
        refine (HS.out _ (Ext.refl _)).mono ?_
        rintro e w1 ⟨rfl, rfl⟩
        go_wp2_with fail
        refine (all_any _ HL.out).mono ?_
        rintro e w1 ⟨rfl, hx⟩
        have HX := Lib.hid hx
        clear hx
        go_wp2_with fail
        go_ret
        exact ⟨by rw [HE.out]; rfl, HX.out⟩
      · have hE2 : knownC sz r 1 = 0 := by unfold knownC; rw [if_neg h0, if_neg (by omega)]
        rw [hE2] at hE
        subst hE
        clear hE2 h0
        go_enter Tryz.func176, Tryz.ntmps176
        go_wp2_with fail
        refine (HS.out _ (Ext.refl _)).mono ?_
        rintro e w1 ⟨rfl, rfl⟩
        go_wp2_with fail
        refine (HS.out _ (Ext.refl _)).mono ?_
        rintro e w1 ⟨rfl, rfl⟩
        go_wp2_with fail
        refine (all_any _ HL.out).mono ?_
        rintro e w1 ⟨rfl, hx⟩
        have HX := Lib.hid hx
        clear hx
        go_wp2_with fail
        go_ret
        exact ⟨by rw [HE.out]; rfl, HX.out⟩
    · clear q hg' 
      by_cases h3 : r < 0
      · have hE2 : knownC sz r 2 = 2 := by unfold knownC; rw [if_neg h0, if_pos (.inr (.inr (.inl h3)))]
        rw [hE2] at hE
        subst hE
        clear hE2 h0
        go_enter Tryz.func176, Tryz.ntmps176
        go_wp2_with fail
        refine (HS.out _ (Ext.refl _)).mono ?_
        rintro e w1 ⟨rfl, rfl⟩
        go_wp2_with fail
        refine (HS.out _ (Ext.refl _)).mono ?_
        rintro e w1 ⟨rfl, rfl⟩
        go_wp2_with fail
        refine (all_any _ HL.out).mono ?_
        rintro e w1 ⟨rfl, hx⟩
        have HX := Lib.hid hx
        clear hx
        go_wp2_with fail
        go_ret
        exact ⟨by rw [HE.out]; rfl, HX.out⟩
      by_cases h4 : 7 ≤ r
      · have hE2 : knownC sz r 2 = 2 := by unfold knownC; rw [if_neg h0, if_pos (.inr (.inr (.inr h4)))]
        rw [hE2] at hE
        subst hE
        clear hE2 h0
        go_enter Tryz.func176, Tryz.ntmps176
        go_wp2_with fail
        refine (HS.out _ (Ext.refl _)).mono ?_
        rintro e w1 ⟨rfl, rfl⟩
        go_wp2_with fail
        refine (HS.out _ (Ext.refl _)).mono ?_
        rintro e w1 ⟨rfl, rfl⟩
        go_wp2_with fail
        refine (all_any _ HL.out).mono ?_
        rintro e w1 ⟨rfl, hx⟩
        have HX := Lib.hid hx
        clear hx
        go_wp2_with fail
        go_ret
        exact ⟨by rw [HE.out]; rfl, HX.out⟩
      · have hE2 : knownC sz r 2 = 0 := by unfold knownC; rw [if_neg h0, if_neg (by omega)]
        rw [hE2] at hE
        subst hE
        clear hE2 h0
        go_enter Tryz.func176, Tryz.ntmps176
        go_wp2_with fail
        refine (HS.out _ (Ext.refl _)).mono ?_
        rintro e w1 ⟨rfl, rfl⟩
        go_wp2_with fail
        refine (HS.out _ (Ext.refl _)).mono ?_
        rintro e w1 ⟨rfl, rfl⟩
        go_wp2_with fail
        refine (all_any _ HL.out).mono ?_
        rintro e w1 ⟨rfl, hx⟩
        have HX := Lib.hid hx
        clear hx
        go_wp2_with fail
        go_ret
        exact ⟨by rw [HE.out]; rfl, HX.out⟩
  · have g1 : (g != 1) = true := by simp; omega
    have g2 : (g != 2) = true := by simp; omega
    have hE2 : knownC sz r g = 2 := by unfold knownC; rw [if_neg h0, if_pos (.inr (.inl (by omega)))]
    rw [hE2] at hE
    subst hE
    clear hE2 h0 hg
    go_enter Tryz.func176, Tryz.ntmps176
    go_wp2_with fail
    refine (HS.out _ (Ext.refl _)).mono ?_
    rintro e w1 ⟨rfl, rfl⟩
    go_wp2_with fail
    refine (HS.out _ (Ext.refl _)).mono ?_
    rintro e w1 ⟨rfl, rfl⟩
    go_wp2_with fail
    refine (all_any _ HL.out).mono ?_
    rintro e w1 ⟨rfl, hx⟩
    have HX := Lib.hid hx
    clear hx
    go_wp2_with fail
    go_ret
    exact ⟨by rw [HE.out]; rfl, HX.out⟩
theorem other_of (p : Int) (h0 : 0 ≤ p) (h1 : p ≤ 1) (w : World) :
    Calls Tryz.prog 178 #[.int .i64 p] w fun e w' => e = .returned (.int .i64 (otherP p)) ∧ w = w' := by
  have h : p = 0 ∨ p = 1 := by omega
  clear h0 h1
  rcases h with rfl | rfl
  all_goals
    go_enter Tryz.func178, Tryz.ntmps178
    go_wp2_with fail
    go_ret
    exact ⟨rfl, rfl⟩
theorem other0 (w : World) : Calls Tryz.prog 178 #[.int .i64 0] w fun e w' => e = .returned (.int .i64 1) ∧ w = w' := other_of 0 (by omega) (by omega) w
theorem other1 (w : World) : Calls Tryz.prog 178 #[.int .i64 1] w fun e w' => e = .returned (.int .i64 0) ∧ w = w' := other_of 1 (by omega) (by omega) w
end
end Go.Proofs.YtgcinagkbdcgiaaGreatDoor
