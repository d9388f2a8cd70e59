/-
  Plain facts on logs: puts on a disk, one behind the other; what faults leave of their slots, if all that is hurt is seen.
-/
import Derived.Test.YtmbmpabjclkhlaaGreatDoorN00
import Derived.Test.YtmbmpabjclkhlaaGreatDoorN01
import Derived.Test.YtmbmpabjclkhlaaGreatDoorN04
import Derived.Test.YtmbmpabjclkhlaaGreatDoorN05
import Derived.Test.YtmbmpabjclkhlaaGreatDoorN08
import Derived.Test.YtmbmpabjclkhlaaGreatDoorN09
import Derived.Test.YtmbmpabjclkhlaaGreatDoorN10
import Derived.Deep.RegionHeld3
import Derived.LoopN
namespace Go.Proofs.YtmbmpabjclkhlaaGreatDoor
set_option maxRecDepth 100000
section
def SlD (m : DM) (r : Int) (q : Nat) (j : Int) (o : Option (Int × Int × Ent)) : Prop := SlH j o (m.recM r (q : Int)) (m.copM r ((2 * q : Nat) : Int)) (m.copM r ((2 * q + 1 : Nat) : Int))
def slT (q t : Nat) : Prop := t = sR q ∨ t = sF (2 * q) ∨ t = sF (2 * q) + 1 ∨ t = sF (2 * q + 1) ∨ t = sF (2 * q + 1) + 1
theorem mayW3 {r inc i : Int} {q : Nat} (hr : 0 ≤ r ∧ r ≤ 6) (hi : 0 ≤ i ∧ i ≤ 1099511627776) (hc : 1 ≤ inc ∧ inc ≤ 1099511627776) (hq : q < 24) : mayB r 3 (q : Int) i inc = true := by
  unfold mayB
  rw [decide_eq_true_iff]
  simp [plc]
  omega
theorem mayW4 {r inc i : Int} {p : Nat} (hr : 0 ≤ r ∧ r ≤ 6) (hi : 0 ≤ i ∧ i ≤ 1099511627776) (hc : 1 ≤ inc ∧ inc ≤ 1099511627776) (hp : p < 48) : mayB r 4 (p : Int) i inc = true := by
  unfold mayB
  rw [decide_eq_true_iff]
  simp [plc]
  omega
theorem nextW_two (m : DM) (r i : Int) : m.nextW r i = 0 ∨ m.nextW r i = 1 := (nextL_two _ _ _ _).1
theorem nextW_of {m : DM} {r i : Int} {q : Nat} (hq : placeW i = (q : Int)) : m.nextW r i = nextL (m.recM r (q : Int)) (m.copM r ((2 * q : Nat) : Int)) (m.copM r ((2 * q + 1 : Nat) : Int)) i := by
  unfold DM.nextW
  rw [hq, show 2 * (q : Int) = ((2 * q : Nat) : Int) from by omega, show ((2 * q : Nat) : Int) + 1 = ((2 * q + 1 : Nat) : Int) from by omega]
theorem SlD.put {m : DM} (h : CD m (-1)) {r inc i x y : Int} {e : Ent} {q : Nat} (hq : placeW i = (q : Int)) (hq24 : q < 24) {j : Int} {o : Option (Int × Int × Ent)} (hs : SlD m r q j o) (hr : 0 ≤ r ∧ r ≤ 6) (hi : 0 ≤ i ∧ i ≤ 1099511627776) (hc : 1 ≤ inc ∧ inc ≤ 1099511627776) (hb : balE x y = true) (he : enOk e = true)
    (hcon : o = none ∨ j < i ∨ (j = i ∧ ∀ a b c, o = some (a, b, c) → gtL x y a b)) :
    ∃ m', m.putW r inc i x y e = (0, m') ∧ CD m' (-1) ∧ (NInv m → NInv m') ∧ SlD m' r q i (some (x, y, e)) ∧ ∀ q', q' < 24 → q' ≠ q → ∀ t, slT q' t → m'.hold t = m.hold t := by
  have hk := nextW_two m r i
  have hkn := nextW_of (m := m) (r := r) hq
  obtain ⟨p, hp, hp48, hpc⟩ : ∃ p : Nat, 2 * (q : Int) + m.nextW r i = (p : Int) ∧ p < 48 ∧ ((p = 2 * q ∧ m.nextW r i = 0) ∨ (p = 2 * q + 1 ∧ m.nextW r i = 1)) := by
    rcases hk with hk | hk
    · exact ⟨2 * q, by omega, by omega, .inl ⟨rfl, hk⟩⟩
    · exact ⟨2 * q + 1, by omega, by omega, .inr ⟨rfl, hk⟩⟩
  have m3 := mayW3 (q := q) hr hi hc hq24
  have m4 := mayW4 (p := p) hr hi hc hp48
  have hrb : recB x y (m.nextW r i) = true := recB_iff.2 ⟨balE_iff.1 hb, hk⟩
  obtain ⟨s1, s2, sp⟩ := frmW_sects (x := x) (y := y) (e := e) m4 hb he
  have s3 := recW_sect (x := x) (y := y) m3 hrb
  obtain ⟨m', e1, c1, n1, g1⟩ := h.putK hq24 hp48 (k := m.nextW r i) (x := x) (y := y) (e := e) hp s1 s2 s3
  have hput : m.putW r inc i x y e = (0, m') := by unfold DM.putW; rw [hq]; exact e1
  refine ⟨m', hput, c1, n1, ?_, fun q' hq' hne t ht => ?_⟩
  · -- what is read then
    have hrec : m'.recM r (q : Int) = { st := 1, ix := i, bx := x, yb := y, wh := m.nextW r i } := by
      rw [c1.recM hq24, g1, if_pos rfl]
      exact recW_back m3 hb hk
    have hnew : m'.copM r (p : Int) = { st := 1, ix := i, bx := x, yb := y, e := e } := by
      rw [c1.copM hp48, g1, g1, if_neg (by unfold sF sR; omega), if_neg (by omega), if_pos rfl, if_neg (by unfold sF sR; omega), if_pos rfl, sp]
      exact frmW_back m4 hb he
    have hold : ∀ p', p' < 48 → p' ≠ p → m'.copM r (p' : Int) = m.copM r (p' : Int) := fun p' hp' hne => by
      rw [c1.copM hp', h.copM hp', g1, g1]
      rw [if_neg (by unfold sF sR; omega), if_neg (by unfold sF; omega), if_neg (by unfold sF; omega), if_neg (by unfold sF sR; omega), if_neg (by unfold sF; omega), if_neg (by unfold sF; omega)]
    have := SlH.put (i := i) (x := x) (y := y) (e := e) hs hcon
    rw [← hkn] at this
    unfold SlD
    rw [hrec]
    rcases hpc with ⟨rfl, hz⟩ | ⟨rfl, hz⟩
    · rw [hnew, hold (2 * q + 1) (by omega) (by omega)]
      rw [hz] at this ⊢
      simpa using this
    · rw [hnew, hold (2 * q) (by omega) (by omega)]
      rw [hz] at this ⊢
      simpa using this
  · have hf := putT_far (p := p) hq24 hq' hne (by omega) ht
    unfold putT at hf
    rw [g1 t, if_neg (fun e => hf (.inl e)), if_neg (fun e => hf (.inr (.inr e))), if_neg (fun e => hf (.inr (.inl e)))]
structure Flt (m0 m : DM) : Prop where
  cd : CD m (-1)
  meant : m.meant = m0.meant
theorem Flt.flip {m0 m : DM} (h : Flt m0 m) (s b : Int) : Flt m0 (m.flip s b).2 := by
  have hok := DM.flip_ok h.cd.b.ok s b
  unfold DM.flip at hok ⊢
  split
  · exact h
  · rename_i hh
    rw [if_neg hh] at hok
    exact ⟨⟨⟨hok, by show (List.set _ _ _).length = 156; rw [List.length_set]; exact h.cd.b.size, h.cd.b.waits, h.cd.b.down⟩, h.cd.dead, h.cd.power⟩, h.meant⟩
theorem Flt.lose {m0 m : DM} (h : Flt m0 m) (s : Int) : Flt m0 (m.lose s).2 := by
  have hok := DM.lose_ok h.cd.b.ok s
  unfold DM.lose at hok ⊢
  split
  · exact h
  · rename_i hh
    rw [if_neg hh] at hok
    exact ⟨⟨⟨hok, h.cd.b.size, h.cd.b.waits, h.cd.b.down⟩, h.cd.dead, h.cd.power⟩, h.meant⟩
theorem Flt.stray {m0 m : DM} (h : Flt m0 m) (a b : Int) : Flt m0 (m.stray a b).2 := by
  have hok := DM.stray_ok h.cd.b.ok a b
  unfold DM.stray at hok ⊢
  split
  · exact h
  · rename_i hh
    rw [if_neg hh] at hok
    exact ⟨⟨⟨hok, by show (List.set _ _ _).length = 156; rw [List.length_set]; exact h.cd.b.size, h.cd.b.waits, h.cd.b.down⟩, h.cd.dead, h.cd.power⟩, h.meant⟩
theorem at_hold {m : DM} (hs : m.size = 156) {t : Nat} (ht : t < 156) : (m.at_ (t : Int)).1 = m.hold t ∧ (m.at_ (t : Int)).2.1 = m.lost.getD t false := by
  have hh : m.has (t : Int) = true := DM.has_iff.2 ⟨by omega, by rw [hs]; omega⟩
  unfold DM.at_ DM.hold
  rw [if_neg (by rw [hh]; simp), Int.toNat_natCast]
  cases hl : m.lost.getD t false <;> simp
theorem Flt.same {m0 m : DM} (h : Flt m0 m) (h0 : CD m0 (-1)) (hn : NInv m0) {t : Nat} (ht : t < 156) (hu : m.hurt (t : Int) = false) : m.hold t = m0.hold t := by
  obtain ⟨a, b⟩ := unhurt hu
  obtain ⟨c, d⟩ := unhurt (hn.hurt (t : Int))
  rw [← (at_hold h.cd.b.size ht).1, ← (at_hold h0.b.size ht).1, b, d]
  unfold DM.means DM.has
  rw [h.cd.b.size, h0.b.size, h.meant]
end
section
def unE (x : Int × DM) (f : DM → Int × DM) : Int × DM := if x.1 = 0 then f x.2 else x
def wrsE (x : Int × DM) (S : Int) (L : List Nat) : Nat → Int × DM
  | 0 => x
  | k + 1 => unE (wrsE x S L k) fun m => m.write (S + (k : Int)) ((L.drop (64 * k)).take 64)
end
section
def fitsC (k count n : Nat) : Bool := decide (1 ≤ count ∧ count ≤ 8 ∧ k < count ∧ n ≤ 80 ∧ (k + 1 < count → n = 80) ∧ (1 ≤ n ∨ count = 1))
theorem fitsC_iff {k count n : Nat} : fitsC k count n = true ↔ 1 ≤ count ∧ count ≤ 8 ∧ k < count ∧ n ≤ 80 ∧ (k + 1 < count → n = 80) ∧ (1 ≤ n ∨ count = 1) := decide_eq_true_iff
def chunkN (n : Nat) : Nat := if n ≤ 80 then 1 else (n + 79) / 80
def chunkL (b : List Nat) (k : Nat) : List Nat := (b.drop (80 * k)).take 80
def splitL (b : List Nat) : List (List Nat) := (List.range (chunkN b.length)).map (chunkL b)
theorem chunkN_in {n : Nat} (h : n ≤ 640) : 1 ≤ chunkN n ∧ chunkN n ≤ 8 ∧ n ≤ 80 * chunkN n ∧ (2 ≤ chunkN n → 80 * (chunkN n - 1) < n) := by unfold chunkN; split <;> omega
theorem splitL_len (b : List Nat) : (splitL b).length = chunkN b.length := by unfold splitL; simp
theorem splitL_get {b : List Nat} {k : Nat} (h : k < chunkN b.length) : (splitL b)[k]? = some (chunkL b k) := by
  unfold splitL
  rw [List.getElem?_map, List.getElem?_range h]; rfl
theorem chunkL_len (b : List Nat) (k : Nat) : (chunkL b k).length = min 80 (b.length - 80 * k) := by unfold chunkL; rw [List.length_take, List.length_drop]
theorem chunks_join (b : List Nat) : ∀ k, ((List.range k).map (chunkL b)).flatten = b.take (80 * k)
  | 0 => by simp
  | k + 1 => by
    rw [List.range_succ, List.map_append, List.flatten_append, chunks_join b k]
    simp only [List.map_cons, List.map_nil, List.flatten_cons, List.flatten_nil, List.append_nil]
    unfold chunkL
    rw [show 80 * (k + 1) = 80 * k + 80 from by omega, List.take_add]
theorem split_flat {b : List Nat} (h : b.length ≤ 640) : (splitL b).flatten = b := by
  unfold splitL
  rw [chunks_join, List.take_of_length_le (chunkN_in h).2.2.1]
theorem split_fits {b : List Nat} (h : b.length ≤ 640) {k : Nat} (hk : k < chunkN b.length) : fitsC k (chunkN b.length) (chunkL b k).length = true := by
  rw [fitsC_iff, chunkL_len]
  obtain ⟨a, b', c, d⟩ := chunkN_in h
  refine ⟨a, b', hk, by omega, fun h2 => ?_, ?_⟩
  · have := d (by omega)
    have : 80 * (k + 1) ≤ 80 * (chunkN b.length - 1) := Nat.mul_le_mul_left _ (by omega)
    omega
  · by_cases h1 : chunkN b.length = 1
    · exact .inr h1
    · left
      have := d (by omega)
      have : 80 * k ≤ 80 * (chunkN b.length - 1) := Nat.mul_le_mul_left _ (by omega)
      omega
end
section
open Go Go.RowKit
def bdZ (count : Int) (c : List Nat) : Bool := decide (1 ≤ count ∧ count ≤ 8 ∧ c.length ≤ 80)
theorem bdZ_iff {count : Int} {c : List Nat} : bdZ count c = true ↔ 1 ≤ count ∧ count ≤ 8 ∧ c.length ≤ 80 := decide_eq_true_iff
def prZL (count : Int) (c : List Nat) : List Nat := if bdZ count c = true then count.toNat :: c else []
def paZ : List Nat → Nat × List Nat × Int
  | [] => (0, [], 120)
  | x :: r => if 1 ≤ x ∧ x ≤ 8 ∧ r.length ≤ 80 then (x, r, 0) else (0, [], 120)
theorem paZ_back {count : Int} {c : List Nat} (h : bdZ count c = true) : paZ (prZL count c) = (count.toNat, c, 0) := by
  have := bdZ_iff.1 h
  unfold prZL
  rw [if_pos h]
  show (if _ then _ else _) = _
  rw [if_pos (by omega)]
end
section
open Go
def mayU (a b c : Int) : Bool := decide (((a = 0 ∧ b = 0) ∨ (1 ≤ a ∧ a ≤ 1099511627776 ∧ 0 ≤ b ∧ b ≤ 6)) ∧ 1 ≤ c ∧ c ≤ 1099511627776)
theorem mayU_iff {a b c : Int} : mayU a b c = true ↔ (((a = 0 ∧ b = 0) ∨ (1 ≤ a ∧ a ≤ 1099511627776 ∧ 0 ≤ b ∧ b ≤ 6)) ∧ 1 ≤ c ∧ c ≤ 1099511627776) := by unfold mayU; exact decide_eq_true_iff
def uFld (a b c : Nat) : Nat → Nat
  | 0 => a
  | 1 => b
  | _ => c
def uW : Nat → Nat
  | 0 => 6
  | 1 => 1
  | _ => 6
def uPre (f : Nat → Nat) : Nat → List Nat
  | 0 => []
  | k + 1 => uPre f k ++ digs (uW k) (f k)
def uBytes (a b c : Nat) : List Nat := uPre (uFld a b c) 3
theorem uBytes_len (a b c : Nat) : (uBytes a b c).length = 13 := by simp [uBytes, uPre, digs_length, uW]
theorem uFld_fits {a b c : Nat} (h : mayU a b c = true) (k : Nat) : fitsB (uW k) (uFld a b c k) = true := by
  rw [mayU_iff] at h
  refine fits_iff.2 ?_
  match k with
  | 0 => exact ⟨rfl, by omega, by show a < 281474976710656; omega⟩
  | 1 => exact ⟨rfl, by omega, by show b < 256; omega⟩
  | _ + 2 => exact ⟨rfl, by omega, by show c < 281474976710656; omega⟩
theorem mayU_nat {a b c : Int} (h : mayU a b c = true) : ∃ a' b' c' : Nat, a = a' ∧ b = b' ∧ c = c' := by
  rw [mayU_iff] at h
  obtain ⟨a', rfl⟩ := Int.eq_ofNat_of_zero_le (show 0 ≤ a by omega)
  obtain ⟨b', rfl⟩ := Int.eq_ofNat_of_zero_le (show 0 ≤ b by omega)
  obtain ⟨c', rfl⟩ := Int.eq_ofNat_of_zero_le (show 0 ≤ c by omega)
  exact ⟨a', b', c', rfl, rfl, rfl⟩
def uPos : Nat → Nat
  | 0 => 0
  | 1 => 6
  | 2 => 7
  | _ => 13
def uNum (l : List Nat) (k : Nat) : Nat := num ((l.drop (uPos k)).take (uW k))
def uV (l : List Nat) : Bool := decide (l.length = 13) && mayU (uNum l 0) (uNum l 1) (uNum l 2)
def uF (l : List Nat) (k : Nat) : Nat := if uV l = true then uNum l k else 0
def uE (l : List Nat) : Int := if uV l = true then 0 else 80
theorem uF_yes {l : List Nat} (h : uV l = true) (k : Nat) : uF l k = uNum l k := by unfold uF; rw [if_pos h]
theorem uE_yes {l : List Nat} (h : uV l = true) : uE l = 0 := by unfold uE; rw [if_pos h]
theorem uV_both {l : List Nat} (h : l.length = 13) (hm : mayU (uNum l 0) (uNum l 1) (uNum l 2) = true) : uV l = true := by unfold uV; simp [h, hm]
def uL (a b c : Int) : List Nat := if mayU a b c = true then uBytes a.toNat b.toNat c.toNat else []
theorem uL_yes {a b c : Int} (h : mayU a b c = true) : uL a b c = uBytes a.toNat b.toNat c.toNat := by unfold uL; rw [if_pos h]
/- There and back. -/
theorem uNum_bytes (a b c k : Nat) (hk : k < 3) (h : uFld a b c k < 256 ^ uW k) : uNum (uBytes a b c) k = uFld a b c k := by
  have key : ((uBytes a b c).drop (uPos k)).take (uW k) = digs (uW k) (uFld a b c k) := by
    have hj' : k = 0 ∨ k = 1 ∨ k = 2 := by omega
    rcases hj' with rfl | rfl | rfl <;> rfl
  unfold uNum
  rw [key, num_digs _ _ h]
theorem uV_bytes {a b c : Nat} (h : mayU a b c = true) : uV (uBytes a b c) = true ∧ ∀ k, k < 3 → uF (uBytes a b c) k = uFld a b c k := by
  have hf : ∀ k, k < 3 → uNum (uBytes a b c) k = uFld a b c k := fun k hk => uNum_bytes a b c k hk (by
    have := (fits_iff.1 (uFld_fits h k)).2.2
    simpa using this)
  have hv : uV (uBytes a b c) = true := uV_both (uBytes_len a b c) (by
    rw [hf 0 (by omega), hf 1 (by omega), hf 2 (by omega)]
    exact h)
  exact ⟨hv, fun k hk => by rw [uF_yes hv, hf k hk]⟩
theorem uBack {a b c : Int} (h : mayU a b c = true) : uV (uL a b c) = true ∧ (uF (uL a b c) 0 : Int) = a ∧ (uF (uL a b c) 1 : Int) = b ∧ (uF (uL a b c) 2 : Int) = c := by
  obtain ⟨a, b, c, rfl, rfl, rfl⟩ := mayU_nat h
  rw [uL_yes h]
  simp only [Int.toNat_natCast]
  obtain ⟨hv, hf⟩ := uV_bytes h
  exact ⟨hv, by rw [hf 0 (by omega)]; rfl, by rw [hf 1 (by omega)]; rfl, by rw [hf 2 (by omega)]; rfl⟩
end
section
structure Cop (x : List Nat) (g p : Int) (v c : Nat) (b : List Nat) : Prop where
  st : stM x 0 g p = 1
  v3 : mfl x 0 g p 3 = v
  c4 : mfl x 0 g p 4 = c
  bd : mbl x 0 g p = b
theorem sealC_sect {r g p : Int} {i c : Nat} {b : List Nat} (h : mayB r g p (i : Int) (c : Int) = true) (hn : b.length ≤ 43) (hb : ∀ x ∈ b, x < 256) : Sect (sealC r g p i c b) := by
  have hE := seal_one (n := b.length) h hn
  refine ⟨?_, sealL_lt hb⟩
  have := (sealL_len hE).1
  unfold sealC
  rw [this]
  rfl
theorem cop_seal {g p : Int} {i c : Nat} {b : List Nat} (h : mayB 0 g p (i : Int) (c : Int) = true) (hn : b.length ≤ 43) : Cop (sealC 0 g p i c b) g p i c b := by
  obtain ⟨h1, _, h3, _, _, _, h4, h5⟩ := seal_mine (seal_one (n := b.length) h hn)
  exact ⟨h1, Int.ofNat.inj h4, Int.ofNat.inj h5, h3⟩
theorem no_copy {x : List Nat} {r g p : Int} (h : stM x r g p ≠ 1) (k : Nat) : mfl x r g p k = 0 := by
  unfold mfl
  split
  · rename_i hm
    exact absurd (by unfold stM; rw [if_pos (by unfold mineB at hm; rw [Bool.and_eq_true] at hm; exact hm.1), if_pos hm]) h
  · rfl
theorem z64_blank (r g p : Int) : stM z64 r g p = 0 := by
  have hz : zeroB z64 = true := by decide
  rw [(mine_bad (zero_bad hz)).1]
  exact stN_blank (by decide) hz
structure Ldd (g : Int) (x y : List Nat) (E : Int) (v : Nat) (b : List Nat) : Prop where
  e : cellE 0 g x y = E
  v : cellF 0 g x y 3 = v
  b : cellB 0 g x y = b
section
variable {g : Int} {x y : List Nat} {v c u d : Nat} {b e : List Nat}
theorem at0 (h : Cop x g 0 v c b) (hy : mfl y 0 g 1 3 ≤ v) : atC 0 g x y = 0 := by
  unfold atC pickP lead0
  rw [h.st, h.v3, decide_eq_true hy]
  rfl
theorem atm (hx : stM x 0 g 0 ≠ 1) (hy : stM y 0 g 1 ≠ 1) : atC 0 g x y = -1 := by
  unfold atC pickP lead0 lead1
  rw [decide_eq_false hx, decide_eq_false hy]
  rfl
theorem ldd0 (h : Cop x g 0 v c b) (hy : mfl y 0 g 1 3 ≤ v) : Ldd g x y 0 v b := by
  have ha := at0 h hy
  exact ⟨by unfold cellE; rw [ha, if_neg (by omega)], by unfold cellF; rw [if_pos ha, h.v3], by unfold cellB; rw [if_pos ha, h.bd]⟩
theorem ldd_blank (hx : stM x 0 g 0 = 0) (hy : stM y 0 g 1 = 0) : Ldd g x y 0 0 [] := by
  have ha := atm (g := g) (x := x) (y := y) (by omega) (by omega)
  refine ⟨?_, by unfold cellF; rw [ha]; rfl, by unfold cellB; rw [ha]; rfl⟩
  unfold cellE blankC pickP
  rw [hx, if_neg (by simp)]
end
def secV (g : Int) (p : Nat) : Nat := (2 * (g - 1)).toNat + p
theorem secV_first {g : Int} (hg : g = 1 ∨ g = 2) {p : Nat} (hp : p ≤ 1) : firstS g (p : Int) = (secV g p : Nat) := by
  have : p = 0 ∨ p = 1 := by omega
  rcases hg with rfl | rfl <;> rcases this with rfl | rfl <;> decide
theorem secV_lt {g : Int} (hg : g = 1 ∨ g = 2) {p : Nat} (hp : p ≤ 1) : secV g p < 156 := by
  unfold secV
  rcases hg with rfl | rfl <;> omega
theorem secV_ne {g : Int} : secV g 0 ≠ secV g 1 := by unfold secV; omega
structure Ld (m : DM) (g : Int) (v : Nat) (b : List Nat) : Prop where
  e : m.loadE 0 g = 0
  v : m.loadV 0 g = v
  b : m.loadB 0 g = b
section
variable {m : DM} {pw : Int} {g : Int} {v : Nat} {b : List Nat}
theorem CD.cb (h : CD m pw) (hg : g = 1 ∨ g = 2) {p : Nat} (hp : p ≤ 1) : m.cb g (p : Int) = m.hold (secV g p) := by
  unfold DM.cb
  rw [secV_first hg hp]
  exact h.read (secV_lt hg hp)
theorem CD.cb0 (h : CD m pw) (hg : g = 1 ∨ g = 2) : m.cb g 0 = m.hold (secV g 0) := h.cb hg (p := 0) (by omega)
theorem CD.cb1 (h : CD m pw) (hg : g = 1 ∨ g = 2) : m.cb g 1 = m.hold (secV g 1) := h.cb hg (p := 1) (by omega)
theorem CD.loadE (h : CD m pw) (hg : g = 1 ∨ g = 2) : m.loadE 0 g = cellE 0 g (m.hold (secV g 0)) (m.hold (secV g 1)) := by
  unfold DM.loadE
  rw [if_neg (by rw [h.up]; simp), h.cb0 hg, h.cb1 hg]
theorem CD.ld (h : CD m pw) (hg : g = 1 ∨ g = 2) (k : Ldd g (m.hold (secV g 0)) (m.hold (secV g 1)) 0 v b) : Ld m g v b := by
  have he : m.loadE 0 g = 0 := by rw [h.loadE hg]; exact k.e
  refine ⟨he, ?_, ?_⟩
  · unfold DM.loadV
    rw [if_pos he, h.cb0 hg, h.cb1 hg]
    exact k.v
  · unfold DM.loadB
    rw [if_pos he, h.cb0 hg, h.cb1 hg]
    exact k.b
end
def Two (m : DM) (g : Int) (v : Nat) (b : List Nat) : Prop :=
  (v = 0 ∧ b = [] ∧ m.hold (secV g 0) = z64 ∧ m.hold (secV g 1) = z64) ∨ (1 ≤ v ∧ ∃ c d, Cop (m.hold (secV g 0)) g 0 v c b ∧ Cop (m.hold (secV g 1)) g 1 v d b)
theorem Two.of_eq {m m' : DM} {g : Int} {v : Nat} {b : List Nat} (h : Two m g v b) (h0 : m'.hold (secV g 0) = m.hold (secV g 0)) (h1 : m'.hold (secV g 1) = m.hold (secV g 1)) : Two m' g v b := by
  unfold Two
  rw [h0, h1]
  exact h
theorem Two.ldd {m : DM} {g : Int} {v : Nat} {b : List Nat} (h : Two m g v b) : Ldd g (m.hold (secV g 0)) (m.hold (secV g 1)) 0 v b := by
  rcases h with ⟨rfl, rfl, h0, h1⟩ | ⟨hv, c, d, h0, h1⟩
  · rw [h0, h1]
    exact ldd_blank (z64_blank 0 g 0) (z64_blank 0 g 1)
  · exact ldd0 h0 (by rw [h1.v3]; omega)
theorem Two.store {m : DM} {pw : Int} {g : Int} {v : Nat} {b : List Nat} (hd : CD m pw) (hg : g = 1 ∨ g = 2) (h : Two m g v b) (hv : v < 1099511627776) {c : Nat} (hc : 1 ≤ c ∧ c ≤ 1099511627776) {body : List Nat} (hn : body.length ≤ 43) :
    ∃ f o : Nat, f ≤ 1 ∧ o = 1 - f ∧ (v = 0 → f = 0) ∧ (1 ≤ v → f = 1) ∧ m.store 0 g (c : Int) body = m.two (secV g f) (secV g o) (sealC 0 g f (v + 1) c body) (sealC 0 g o (v + 1) c body) := by
  have hl := hd.ld hg h.ldd
  have hE : m.storeE 0 g (c : Int) body.length = 0 := by
    unfold DM.storeE
    rw [if_neg (by omega), if_neg (by omega), if_neg (by rw [hl.e]; simp), if_neg (by rw [hl.v]; omega)]
  have hs : m.store 0 g (c : Int) body = m.puts2 0 g (firstP 0 g (m.cb g 0) (m.cb g 1)) (v + 1) c body := by
    unfold DM.store
    rw [if_neg (by rw [hE]; simp), hl.v, Int.toNat_natCast]
  rw [hs, hd.cb0 hg, hd.cb1 hg]
  rcases h with ⟨rfl, rfl, h0, h1⟩ | ⟨hv1, c0, d0, h0, h1⟩
  · refine ⟨0, 1, by omega, rfl, fun _ => rfl, fun h => absurd h (by omega), ?_⟩
    have ha := atm (g := g) (x := z64) (y := z64) (by rw [z64_blank]; omega) (by rw [z64_blank]; omega)
    have hf : firstP 0 g (m.hold (secV g 0)) (m.hold (secV g 1)) = 0 := by unfold firstP; rw [h0, h1, if_neg (by rw [ha]; omega)]
    rw [hf]
    unfold DM.puts2 DM.two
    rw [show firstS g 0 = (secV g 0 : Nat) from secV_first hg (p := 0) (by omega), show firstS g (otherP 0) = (secV g 1 : Nat) from secV_first hg (p := 1) (by omega)]
    rfl
  · refine ⟨1, 0, by omega, rfl, fun h => absurd h (by omega), fun _ => rfl, ?_⟩
    have ha := at0 h0 (y := m.hold (secV g 1)) (by rw [h1.v3]; omega)
    have hf : firstP 0 g (m.hold (secV g 0)) (m.hold (secV g 1)) = 1 := by unfold firstP; rw [if_pos ha]
    rw [hf]
    unfold DM.puts2 DM.two
    rw [show firstS g 1 = (secV g 1 : Nat) from secV_first hg (p := 1) (by omega), show firstS g (otherP 1) = (secV g 0 : Nat) from secV_first hg (p := 0) (by omega)]
    rfl
theorem may_new {g : Int} (hg : g = 1 ∨ g = 2) {p : Nat} (hp : p ≤ 1) {v c : Nat} (hv : v < 1099511627776) (hc : 1 ≤ c ∧ c ≤ 1099511627776) : mayB 0 g (p : Int) ((v + 1 : Nat) : Int) (c : Int) = true := may_store (by omega) hg (by omega) hv (by omega)
theorem Two.stored {m : DM} {g : Int} {v : Nat} {b : List Nat} (hd : CD m (-1)) (hg : g = 1 ∨ g = 2) (h : Two m g v b) (hv : v < 1099511627776) {c : Nat} (hc : 1 ≤ c ∧ c ≤ 1099511627776) {body : List Nat} (hn : body.length ≤ 43) (hb : ∀ x ∈ body, x < 256) :
    ∃ m', m.store 0 g (c : Int) body = (0, m') ∧ CD m' (-1) ∧ Two m' g (v + 1) body ∧ (∀ t, t ≠ secV g 0 → t ≠ secV g 1 → m'.hold t = m.hold t) := by
  obtain ⟨f, o, hf, ho, _, _, hs⟩ := h.store hd hg hv hc hn
  have ho1 : o ≤ 1 := by omega
  obtain ⟨m', q, e, h1, h2, h3⟩ := hd.two_ok (a := secV g f) (b := secV g o) (.inl rfl) (secV_lt hg hf) (secV_lt hg ho1) (sealC_sect (may_new hg hf hv hc) hn hb) (sealC_sect (may_new hg ho1 hv hc) hn hb)
  obtain rfl := h2 rfl
  refine ⟨m', by rw [hs, e], h1, .inr ⟨by omega, c, c, ?_, ?_⟩, fun t t0 t1 => ?_⟩
  · have hff : f = 0 ∨ f = 1 := by omega
    rcases hff with rfl | rfl
    · obtain rfl : o = 1 := by omega
      rw [h3, if_neg secV_ne, if_pos rfl]
      exact cop_seal (may_new hg (p := 0) (by omega) hv hc) hn
    · obtain rfl : o = 0 := by omega
      rw [h3, if_pos rfl]
      exact cop_seal (may_new hg (p := 0) (by omega) hv hc) hn
  · have hff : f = 0 ∨ f = 1 := by omega
    rcases hff with rfl | rfl
    · obtain rfl : o = 1 := by omega
      rw [h3, if_pos rfl]
      exact cop_seal (may_new hg (p := 1) (by omega) hv hc) hn
    · obtain rfl : o = 0 := by omega
      rw [h3, if_neg (fun e => secV_ne e.symm), if_pos rfl]
      exact cop_seal (may_new hg (p := 1) (by omega) hv hc) hn
  · have hff : f = 0 ∨ f = 1 := by omega
    rw [h3]
    rcases hff with rfl | rfl
    · obtain rfl : o = 1 := by omega
      rw [if_neg t1, if_neg t0]
    · obtain rfl : o = 0 := by omega
      rw [if_neg t0, if_neg t1]
end
section
variable {r : Int}
structure CopU (r : Int) (x : List Nat) (g p : Int) (v c : Nat) (b : List Nat) : Prop where
  st : stM x r g p = 1
  v3 : mfl x r g p 3 = v
  c4 : mfl x r g p 4 = c
  bd : mbl x r g p = b
theorem cop_sealU {g p : Int} {i c : Nat} {b : List Nat} (h : mayB r g p (i : Int) (c : Int) = true) (hn : b.length ≤ 43) : CopU r (sealC r g p i c b) g p i c b := by
  obtain ⟨h1, _, h3, _, _, _, h4, h5⟩ := seal_mine (seal_one (n := b.length) h hn)
  exact ⟨h1, Int.ofNat.inj h4, Int.ofNat.inj h5, h3⟩
structure LddU (r : Int) (g : Int) (x y : List Nat) (E : Int) (v : Nat) (b : List Nat) : Prop where
  e : cellE r g x y = E
  v : cellF r g x y 3 = v
  b : cellB r g x y = b
section
variable {g : Int} {x y : List Nat} {v c u d : Nat} {b e : List Nat}
theorem at0U (h : CopU r x g 0 v c b) (hy : mfl y r g 1 3 ≤ v) : atC r g x y = 0 := by
  unfold atC pickP lead0
  rw [h.st, h.v3, decide_eq_true hy]
  rfl
theorem at1U (h : CopU r y g 1 v c b) (hx : mfl x r g 0 3 < v ∨ stM x r g 0 ≠ 1) : atC r g x y = 1 := by
  have hx2 : lead0 r g x y = false := by
    unfold lead0
    rw [h.v3]
    rcases hx with hx | hx
    · rw [decide_eq_false (p := v ≤ _) (by omega)]; simp
    · rw [decide_eq_false hx]; rfl
  have hx3 : mfl x r g 0 3 ≤ v := by
    rcases hx with hx | hx
    · omega
    · rw [no_copy hx]; omega
  unfold atC pickP
  rw [hx2]
  unfold lead1
  rw [h.st, h.v3, decide_eq_true hx3]
  rfl
theorem atmU (hx : stM x r g 0 ≠ 1) (hy : stM y r g 1 ≠ 1) : atC r g x y = -1 := by
  unfold atC pickP lead0 lead1
  rw [decide_eq_false hx, decide_eq_false hy]
  rfl
theorem ldd0U (h : CopU r x g 0 v c b) (hy : mfl y r g 1 3 ≤ v) : LddU r g x y 0 v b := by
  have ha := at0U h hy
  exact ⟨by unfold cellE; rw [ha, if_neg (by omega)], by unfold cellF; rw [if_pos ha, h.v3], by unfold cellB; rw [if_pos ha, h.bd]⟩
theorem ldd1U (h : CopU r y g 1 v c b) (hx : mfl x r g 0 3 < v ∨ stM x r g 0 ≠ 1) : LddU r g x y 0 v b := by
  have ha := at1U h hx
  exact ⟨by unfold cellE; rw [ha, if_neg (by omega)], by unfold cellF; rw [if_neg (by rw [ha]; omega), if_pos ha, h.v3], by unfold cellB; rw [if_neg (by rw [ha]; omega), if_pos ha, h.bd]⟩
theorem ldd_blankU (hx : stM x r g 0 = 0) (hy : stM y r g 1 = 0) : LddU r g x y 0 0 [] := by
  have ha := atmU (r := r) (g := g) (x := x) (y := y) (by omega) (by omega)
  refine ⟨?_, by unfold cellF; rw [ha]; rfl, by unfold cellB; rw [ha]; rfl⟩
  unfold cellE blankC pickP
  rw [hx, if_neg (by simp)]
end
structure LdU (r : Int) (m : DM) (g : Int) (v : Nat) (b : List Nat) : Prop where
  e : m.loadE r g = 0
  v : m.loadV r g = v
  b : m.loadB r g = b
section
variable {m : DM} {pw : Int} {g : Int} {v : Nat} {b : List Nat}
theorem CD.loadEU (h : CD m pw) (hg : g = 1 ∨ g = 2) : m.loadE r g = cellE r g (m.hold (secV g 0)) (m.hold (secV g 1)) := by
  unfold DM.loadE
  rw [if_neg (by rw [h.up]; simp), h.cb0 hg, h.cb1 hg]
theorem CD.ldU (h : CD m pw) (hg : g = 1 ∨ g = 2) (k : LddU r g (m.hold (secV g 0)) (m.hold (secV g 1)) 0 v b) : LdU r m g v b := by
  have he : m.loadE r g = 0 := by rw [h.loadEU hg]; exact k.e
  refine ⟨he, ?_, ?_⟩
  · unfold DM.loadV
    rw [if_pos he, h.cb0 hg, h.cb1 hg]
    exact k.v
  · unfold DM.loadB
    rw [if_pos he, h.cb0 hg, h.cb1 hg]
    exact k.b
end
def TwoU (r : Int) (m : DM) (g : Int) (v : Nat) (b : List Nat) : Prop :=
  (v = 0 ∧ b = [] ∧ m.hold (secV g 0) = z64 ∧ m.hold (secV g 1) = z64) ∨ (1 ≤ v ∧ ∃ c d, CopU r (m.hold (secV g 0)) g 0 v c b ∧ CopU r (m.hold (secV g 1)) g 1 v d b)
theorem TwoU.of_eq {m m' : DM} {g : Int} {v : Nat} {b : List Nat} (h : TwoU r m g v b) (h0 : m'.hold (secV g 0) = m.hold (secV g 0)) (h1 : m'.hold (secV g 1) = m.hold (secV g 1)) : TwoU r m' g v b := by
  unfold TwoU
  rw [h0, h1]
  exact h
theorem TwoU.ldd {m : DM} {g : Int} {v : Nat} {b : List Nat} (h : TwoU r m g v b) : LddU r g (m.hold (secV g 0)) (m.hold (secV g 1)) 0 v b := by
  rcases h with ⟨rfl, rfl, h0, h1⟩ | ⟨hv, c, d, h0, h1⟩
  · rw [h0, h1]
    exact ldd_blankU (z64_blank r g 0) (z64_blank r g 1)
  · exact ldd0U h0 (by rw [h1.v3]; omega)
theorem TwoU.store {m : DM} {pw : Int} {g : Int} {v : Nat} {b : List Nat} (hd : CD m pw) (hg : g = 1 ∨ g = 2) (h : TwoU r m g v b) (hv : v < 1099511627776) {c : Nat} (hc : 1 ≤ c ∧ c ≤ 1099511627776) {body : List Nat} (hn : body.length ≤ 43) :
    ∃ f o : Nat, f ≤ 1 ∧ o = 1 - f ∧ (v = 0 → f = 0) ∧ (1 ≤ v → f = 1) ∧ m.store r g (c : Int) body = m.two (secV g f) (secV g o) (sealC r g f (v + 1) c body) (sealC r g o (v + 1) c body) := by
  have hl := hd.ldU hg h.ldd
  have hE : m.storeE r g (c : Int) body.length = 0 := by
    unfold DM.storeE
    rw [if_neg (by omega), if_neg (by omega), if_neg (by rw [hl.e]; simp), if_neg (by rw [hl.v]; omega)]
  have hs : m.store r g (c : Int) body = m.puts2 r g (firstP r g (m.cb g 0) (m.cb g 1)) (v + 1) c body := by
    unfold DM.store
    rw [if_neg (by rw [hE]; simp), hl.v, Int.toNat_natCast]
  rw [hs, hd.cb0 hg, hd.cb1 hg]
  rcases h with ⟨rfl, rfl, h0, h1⟩ | ⟨hv1, c0, d0, h0, h1⟩
  · refine ⟨0, 1, by omega, rfl, fun _ => rfl, fun h => absurd h (by omega), ?_⟩
    have ha := atmU (r := r) (g := g) (x := z64) (y := z64) (by rw [z64_blank]; omega) (by rw [z64_blank]; omega)
    have hf : firstP r g (m.hold (secV g 0)) (m.hold (secV g 1)) = 0 := by unfold firstP; rw [h0, h1, if_neg (by rw [ha]; omega)]
    rw [hf]
    unfold DM.puts2 DM.two
    rw [show firstS g 0 = (secV g 0 : Nat) from secV_first hg (p := 0) (by omega), show firstS g (otherP 0) = (secV g 1 : Nat) from secV_first hg (p := 1) (by omega)]
    rfl
  · refine ⟨1, 0, by omega, rfl, fun h => absurd h (by omega), fun _ => rfl, ?_⟩
    have ha := at0U h0 (y := m.hold (secV g 1)) (by rw [h1.v3]; omega)
    have hf : firstP r g (m.hold (secV g 0)) (m.hold (secV g 1)) = 1 := by unfold firstP; rw [if_pos ha]
    rw [hf]
    unfold DM.puts2 DM.two
    rw [show firstS g 1 = (secV g 1 : Nat) from secV_first hg (p := 1) (by omega), show firstS g (otherP 1) = (secV g 0 : Nat) from secV_first hg (p := 0) (by omega)]
    rfl
theorem may_newU (hr : 0 ≤ r ∧ r < 7) {g : Int} (hg : g = 1 ∨ g = 2) {p : Nat} (hp : p ≤ 1) {v c : Nat} (hv : v < 1099511627776) (hc : 1 ≤ c ∧ c ≤ 1099511627776) : mayB r g (p : Int) ((v + 1 : Nat) : Int) (c : Int) = true := may_store (by omega) hg (by omega) hv (by omega)
theorem TwoU.stored {m : DM} {g : Int} {v : Nat} {b : List Nat} (hr : 0 ≤ r ∧ r < 7) (hd : CD m (-1)) (hg : g = 1 ∨ g = 2) (h : TwoU r m g v b) (hv : v < 1099511627776) {c : Nat} (hc : 1 ≤ c ∧ c ≤ 1099511627776) {body : List Nat} (hn : body.length ≤ 43) (hb : ∀ x ∈ body, x < 256) :
    ∃ m', m.store r g (c : Int) body = (0, m') ∧ CD m' (-1) ∧ TwoU r m' g (v + 1) body ∧ (∀ t, t ≠ secV g 0 → t ≠ secV g 1 → m'.hold t = m.hold t) := by
  obtain ⟨f, o, hf, ho, _, _, hs⟩ := h.store hd hg hv hc hn
  have ho1 : o ≤ 1 := by omega
  obtain ⟨m', q, e, h1, h2, h3⟩ := hd.two_ok (a := secV g f) (b := secV g o) (.inl rfl) (secV_lt hg hf) (secV_lt hg ho1) (sealC_sect (may_newU hr hg hf hv hc) hn hb) (sealC_sect (may_newU hr hg ho1 hv hc) hn hb)
  obtain rfl := h2 rfl
  refine ⟨m', by rw [hs, e], h1, .inr ⟨by omega, c, c, ?_, ?_⟩, fun t t0 t1 => ?_⟩
  · have hff : f = 0 ∨ f = 1 := by omega
    rcases hff with rfl | rfl
    · obtain rfl : o = 1 := by omega
      rw [h3, if_neg secV_ne, if_pos rfl]
      exact cop_sealU (may_newU hr hg (p := 0) (by omega) hv hc) hn
    · obtain rfl : o = 0 := by omega
      rw [h3, if_pos rfl]
      exact cop_sealU (may_newU hr hg (p := 0) (by omega) hv hc) hn
  · have hff : f = 0 ∨ f = 1 := by omega
    rcases hff with rfl | rfl
    · obtain rfl : o = 1 := by omega
      rw [h3, if_pos rfl]
      exact cop_sealU (may_newU hr hg (p := 1) (by omega) hv hc) hn
    · obtain rfl : o = 0 := by omega
      rw [h3, if_neg (fun e => secV_ne e.symm), if_pos rfl]
      exact cop_sealU (may_newU hr hg (p := 1) (by omega) hv hc) hn
  · have hff : f = 0 ∨ f = 1 := by omega
    rw [h3]
    rcases hff with rfl | rfl
    · obtain rfl : o = 1 := by omega
      rw [if_neg t1, if_neg t0]
    · obtain rfl : o = 0 := by omega
      rw [if_neg t0, if_neg t1]
end
section
variable {r : Int}
def SomeU (r : Int) (m : DM) (g : Int) (v : Nat) (b : List Nat) : Prop :=
  (v = 0 ∧ b = [] ∧ m.hold (secV g 0) = z64 ∧ m.hold (secV g 1) = z64) ∨ (1 ≤ v ∧ ∃ c, CopU r (m.hold (secV g 0)) g 0 v c b ∧ mfl (m.hold (secV g 1)) r g 1 3 ≤ v ∧ (mfl (m.hold (secV g 1)) r g 1 3 = v → mbl (m.hold (secV g 1)) r g 1 = b)) ∨ (1 ≤ v ∧ ∃ c, CopU r (m.hold (secV g 1)) g 1 v c b ∧ mfl (m.hold (secV g 0)) r g 0 3 < v)
theorem SomeU.ldd {m : DM} {g : Int} {v : Nat} {b : List Nat} (h : SomeU r m g v b) : LddU r g (m.hold (secV g 0)) (m.hold (secV g 1)) 0 v b := by
  rcases h with ⟨rfl, rfl, h0, h1⟩ | ⟨_, c, h0, h1, _⟩ | ⟨_, c, h1, h0⟩
  · rw [h0, h1]
    exact ldd_blankU (z64_blank r g 0) (z64_blank r g 1)
  · exact ldd0U h0 h1
  · exact ldd1U h1 (.inl h0)
theorem two_someU {m : DM} {g : Int} {v : Nat} {b : List Nat} (h : TwoU r m g v b) : SomeU r m g v b := by
  rcases h with ⟨rfl, rfl, h0, h1⟩ | ⟨hv, c, d, h0, h1⟩
  · exact .inl ⟨rfl, rfl, h0, h1⟩
  · exact .inr (.inl ⟨hv, c, h0, by rw [h1.v3]; omega, fun _ => h1.bd⟩)
theorem z64_vU (g p : Int) (k : Nat) : mfl z64 r g p k = 0 := no_copy (by rw [z64_blank]; omega) k
theorem TwoU.power {m : DM} {k : Nat} {g : Int} {v : Nat} {b : List Nat} (hr : 0 ≤ r ∧ r < 7) (hd : CD m (k : Int)) (hg : g = 1 ∨ g = 2) (h : TwoU r m g v b) (hv : v < 1099511627776) {c : Nat} (hc : 1 ≤ c ∧ c ≤ 1099511627776) {body : List Nat} (hn : body.length ≤ 43) (hb : ∀ x ∈ body, x < 256) (keep : List Bool) :
    ((m.store r g (c : Int) body).1 = if k < 4 then 5 else 0) ∧ ((m.store r g (c : Int) body).2.crash keep).1 = 0 ∧ ((m.store r g (c : Int) body).2.crash keep).2.start.1 = 0 ∧ CD ((m.store r g (c : Int) body).2.crash keep).2.start.2 (-1) ∧
      (SomeU r ((m.store r g (c : Int) body).2.crash keep).2.start.2 g v b ∨ SomeU r ((m.store r g (c : Int) body).2.crash keep).2.start.2 g (v + 1) body) ∧ (4 ≤ k → TwoU r ((m.store r g (c : Int) body).2.crash keep).2.start.2 g (v + 1) body) := by
  obtain ⟨f, o, hf, ho, f0, f1, hs⟩ := h.store hd hg hv hc hn
  have ho1 : o ≤ 1 := by omega
  obtain ⟨r1, r2, r3, r4, r5, r6⟩ := hd.two_power (a := secV g f) (b := secV g o) (secV_lt hg hf) (secV_lt hg ho1) (sealC_sect (may_newU hr hg hf hv hc) hn hb) (sealC_sect (may_newU hr hg ho1 hv hc) hn hb) keep
  rw [hs]
  have n0 := cop_sealU (may_newU hr hg (p := 0) (by omega) hv hc) hn
  have n1 := cop_sealU (may_newU hr hg (p := 1) (by omega) hv hc) hn
  have both : ∀ m2 : DM, (∀ t, m2.hold t = if t = secV g o then sealC r g o (v + 1) c body else if t = secV g f then sealC r g f (v + 1) c body else m.hold t) → TwoU r m2 g (v + 1) body := fun m2 hh => by
    refine .inr ⟨by omega, c, c, ?_, ?_⟩
    · have hff : f = 0 ∨ f = 1 := by omega
      rcases hff with rfl | rfl
      · obtain rfl : o = 1 := by omega
        rw [hh, if_neg secV_ne, if_pos rfl]; exact n0
      · obtain rfl : o = 0 := by omega
        rw [hh, if_pos rfl]; exact n0
    · have hff : f = 0 ∨ f = 1 := by omega
      rcases hff with rfl | rfl
      · obtain rfl : o = 1 := by omega
        rw [hh, if_pos rfl]; exact n1
      · obtain rfl : o = 0 := by omega
        rw [hh, if_neg (fun e => secV_ne e.symm), if_pos rfl]; exact n1
  refine ⟨r1, r2, r3, r4, ?_, fun hk => both _ (r6 hk)⟩
  cases r5 with
  | none hh => exact .inl (two_someU (h.of_eq (hh _) (hh _)))
  | both hh => exact .inr (two_someU (both _ hh))
  | one hh =>
    right
    rcases h with ⟨rfl, rfl, h0, h1⟩ | ⟨hv1, p, q, h0, h1⟩
    · obtain rfl := f0 rfl
      refine .inr (.inl ⟨by omega, c, by rw [hh, if_pos rfl]; exact n0, ?_, fun hq => ?_⟩)
      · rw [hh, if_neg (fun e => secV_ne e.symm), h1, z64_vU]; omega
      · rw [hh, if_neg (fun e => secV_ne e.symm), h1, z64_vU] at hq; omega
    · obtain rfl := f1 hv1
      refine .inr (.inr ⟨by omega, c, by rw [hh, if_pos rfl]; exact n1, ?_⟩)
      rw [hh, if_neg secV_ne, h0.v3]
      omega
end
section
def DM.ldE (m : DM) (r : Int) : Int := if m.loadE r 1 ≠ 0 then m.loadE r 1 else if m.loadV r 1 = 0 then 0 else uE (m.loadB r 1)
def DM.ldF (m : DM) (r : Int) (k : Nat) : Nat := if m.loadE r 1 ≠ 0 then 0 else if m.loadV r 1 = 0 then 0 else uF (m.loadB r 1) k
def After (m : DM) (P : DM → Prop) : Prop := ∀ keep : List Bool, (m.crash keep).1 = 0 ∧ (m.crash keep).2.start.1 = 0 ∧ CD (m.crash keep).2.start.2 (-1) ∧ P (m.crash keep).2.start.2
theorem After.mono {m : DM} {P Q : DM → Prop} (h : After m P) (k : ∀ n, P n → Q n) : After m Q := fun keep => by
  obtain ⟨h1, h2, h3, h4⟩ := h keep
  exact ⟨h1, h2, h3, k _ h4⟩
section
variable {m : DM} {pw : Int} {r : Int} {v : Nat} {b : List Nat}
theorem SomeU.of_eq {m' : DM} {g : Int} (h : SomeU r m g v b) (h0 : m'.hold (secV g 0) = m.hold (secV g 0)) (h1 : m'.hold (secV g 1) = m.hold (secV g 1)) : SomeU r m' g v b := by
  unfold SomeU
  rw [h0, h1]
  exact h
def Sto (v : Nat) (body : List Nat) (A B C : Int) : Prop := (v = 0 ∧ A = 0 ∧ B = 0 ∧ C = 0) ∨ (1 ≤ v ∧ mayU A B C = true ∧ body = uL A B C)
theorem Sto.of {A B C : Int} (h : mayU A B C = true) : Sto (v + 1) (uL A B C) A B C := .inr ⟨by omega, h, rfl⟩
theorem LdU.read {A B C : Int} {body : List Nat} (h : LdU r m 1 v body) (hs : Sto v body A B C) : m.ldE r = 0 ∧ (m.ldF r 0 : Int) = A ∧ (m.ldF r 1 : Int) = B ∧ (m.ldF r 2 : Int) = C := by
  unfold DM.ldE DM.ldF
  rw [h.e, h.v, h.b]
  simp only [ne_eq, not_true_eq_false, if_false]
  rcases hs with ⟨rfl, rfl, rfl, rfl⟩ | ⟨hv, hm, rfl⟩
  · simp
  · have h0 : ¬ v = 0 := by omega
    obtain ⟨e, f0, f1, f2⟩ := uBack hm
    simp only [if_neg h0]
    exact ⟨uE_yes e, f0, f1, f2⟩
end
end
section
structure ShM where
  ix : Nat := 0
  ar : Nat := 0
  ct : Nat := 0
def manL (s : ShM) : List Nat := (digs 6 s.ix ++ digs 1 s.ar) ++ digs 1 s.ct
def manR (b : List Nat) : ShM := ⟨num ((b.drop 0).take 6), num ((b.drop 6).take 1), num ((b.drop 7).take 1)⟩
def manOk (s : ShM) : Bool := decide (1 ≤ s.ix ∧ s.ix ≤ 1099511627752 ∧ s.ar ≤ 1 ∧ 1 ≤ s.ct ∧ s.ct ≤ 8)
def manB (b : List Nat) : Bool := decide (b.length = 8) && manOk (manR b)
def manE (b : List Nat) : Int := if manB b = true then 0 else 130
def manS (b : List Nat) : ShM := if manB b = true then manR b else {}
theorem manOk_iff {s : ShM} : manOk s = true ↔ 1 ≤ s.ix ∧ s.ix ≤ 1099511627752 ∧ s.ar ≤ 1 ∧ 1 ≤ s.ct ∧ s.ct ≤ 8 := decide_eq_true_iff
def sC (p : Nat) : Nat := 124 + 2 * p
theorem first5 {p : Nat} (h : p < 16) : firstS 5 (p : Int) = (sC p : Nat) := by
  unfold firstS sC
  rw [if_pos (by simp [plc]; omega)]
  simp [beg, wid]
  omega
theorem sC_lt {p : Nat} (h : p < 16) : sC p + 1 < 156 := by unfold sC; omega
def DM.kb (m : DM) (p : Int) : List Nat := pair2 (m.read (firstS 5 p)).1 (m.read (firstS 5 p + 1)).1
def okC (r : Int) (s : ShM) (k : Nat) (x : List Nat) : Bool := decide (stM x r 5 ((8 * s.ar + k : Nat) : Int) = 1 ∧ mfl x r 5 ((8 * s.ar + k : Nat) : Int) 3 = s.ix ∧ (paZ (mbl x r 5 ((8 * s.ar + k : Nat) : Int))).2.2 = 0 ∧ (paZ (mbl x r 5 ((8 * s.ar + k : Nat) : Int))).1 = s.ct ∧ fitsC k s.ct (paZ (mbl x r 5 ((8 * s.ar + k : Nat) : Int))).2.1.length = true)
def bytC (r : Int) (s : ShM) (k : Nat) (x : List Nat) : List Nat := if okC r s k x = true then (paZ (mbl x r 5 ((8 * s.ar + k : Nat) : Int))).2.1 else []
def DM.chB (m : DM) (r : Int) (s : ShM) (k : Nat) : Bool := okC r s k (m.kb ((8 * s.ar + k : Nat) : Int))
def DM.chL (m : DM) (r : Int) (s : ShM) (k : Nat) : List Nat := bytC r s k (m.kb ((8 * s.ar + k : Nat) : Int))
def DM.hurtK (m : DM) (r : Int) (s : ShM) (n : Nat) : List Nat := (List.range n).filter fun k => !m.chB r s k
theorem hurtK_nil {m : DM} {r : Int} {s : ShM} {n : Nat} : m.hurtK r s n = [] ↔ ∀ k, k < n → m.chB r s k = true := by
  unfold DM.hurtK
  rw [List.filter_eq_nil_iff]
  constructor
  · intro h k hk
    have := h k (List.mem_range.2 hk)
    simpa using this
  · intro h k hk
    simp [h k (List.mem_range.1 hk)]
def DM.catK (m : DM) (r : Int) (s : ShM) (n : Nat) : List Nat := ((List.range n).map (m.chL r s)).flatten
def frmY (r inc : Int) (s : ShM) (k : Nat) (c : List Nat) : List Nat := sealL r 5 ((8 * s.ar + k : Nat) : Int) (s.ix : Int) inc (prZL (s.ct : Int) c) 2
end
section
open Go Go.RowKit
structure LogAt (w : World) (g d : Nat) (r inc : Int) (s : Nat) : Prop where
  row : w.heap[g]? = some (.cells #[.pointer (some ⟨g, 0, none⟩), .pointer (some ⟨d, 0, none⟩), .int .i64 r, .int .i64 inc, .int .i64 (s : Int)] 142 (0, 0))
theorem LogAt.lt {w : World} {g d s : Nat} {r inc : Int} (h : LogAt w g d r inc s) : g < w.heap.size := (Array.getElem?_eq_some_iff.1 h.row).1
theorem LogAt.cells {w : World} {g d s : Nat} {r inc : Int} (h : LogAt w g d r inc s) : w.cell? ⟨g, 0, none⟩ = some (.pointer (some ⟨g, 0, none⟩)) ∧ w.cell? ⟨g, 1, none⟩ = some (.pointer (some ⟨d, 0, none⟩)) ∧ w.cell? ⟨g, 2, none⟩ = some (.int .i64 r) ∧ w.cell? ⟨g, 3, none⟩ = some (.int .i64 inc) ∧ w.cell? ⟨g, 4, none⟩ = some (.int .i64 (s : Int)) :=
  ⟨cell_of_row w g 0 _ _ _ h.row, cell_of_row w g 1 _ _ _ h.row, cell_of_row w g 2 _ _ _ h.row, cell_of_row w g 3 _ _ _ h.row, cell_of_row w g 4 _ _ _ h.row⟩
theorem LogAt.ext {w w' : World} {g d s : Nat} {r inc : Int} (h : LogAt w g d r inc s) (hx : Ext w w') : LogAt w' g d r inc s := ⟨(hx.block _ h.lt).trans h.row⟩
theorem LogAt.mod {w w' : World} {F : Nat → Prop} {g d s : Nat} {r inc : Int} (h : LogAt w g d r inc s) (hm : Mod F w w') (hF : ¬ F g) : LogAt w' g d r inc s := ⟨(hm.block g h.lt hF).trans h.row⟩
def inI (a b c : Int) : Bool := decide (a ≤ b) && decide (b ≤ c)
end
end Go.Proofs.YtmbmpabjclkhlaaGreatDoor
