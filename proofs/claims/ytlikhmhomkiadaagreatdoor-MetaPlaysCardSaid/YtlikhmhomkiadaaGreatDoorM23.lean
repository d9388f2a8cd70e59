/-
  The contracts of the tag functions that reckon sectors: start, First, All, Where.
  The contracts of the observers' small functions: isHurt, known, knownPlace, restBytes, meantBytes, isBad.
  The contracts of the statements' reads and Great; a disk since a world.
  The contract of the statements' Great; a round of Do over a list of acts that came in.
  The contracts of the ghost statements' wide and Great; what an act does to a disk, in plain words.
  The contract of the statements' own 'sealed': a frame in one sector or in two, and whether there is one.
  The contract of the ghost statements' Do.
  The contracts of the ghost statements' Do, for any act, and of put.
  The contracts of restBytes, meantBytes and isBad.
  Plain facts that the ghost statements' walks come to: disks without faults; faults leave what is meant; what put leaves.
  The contract of Honest.
  Plain facts for GhostHealed and GhostHonest: a disk that is taken up again; what Mine tells of a frame that was written.
-/
import Derived.Test.YtlikhmhomkiadaaGreatDoorM07
import Derived.Test.YtlikhmhomkiadaaGreatDoorM10
import Derived.Test.YtlikhmhomkiadaaGreatDoorM12
import Derived.Test.YtlikhmhomkiadaaGreatDoorM17
import Derived.Test.YtlikhmhomkiadaaGreatDoorM19
import Derived.Test.YtlikhmhomkiadaaGreatDoorM22
import Derived.Deep.RegionHeld3
namespace Go.Proofs.YtlikhmhomkiadaaGreatDoor
set_option maxRecDepth 100000
open Go Go.RowKit

set_option maxHeartbeats 800000 in
theorem start_any (r : Nat) (w : World) (hL : LaidT w) (hr : r ≤ 6) :
    Calls Tryz.prog 101 #[.int .i64 r] w fun e w' => e = .returned (.int .i64 (beg r)) ∧ Ext w w' := by
  have HL := Lib.hid hL
  clear hL
  go_enter Tryz.func101, Tryz.ntmps101
  go_wp2_with fail
  go_loopw [3, 6] (fun b i wr => ∃ k : Nat, k ≤ r ∧ i = .int .i64 k ∧ b = .int .i64 (beg k) ∧ Hid (Ext w wr)) (fun _ i _ => r - (intOf i).toNat)
  case atStart => exact ⟨0, Nat.zero_le _, rfl, rfl, Lib.hid (Ext.refl w)⟩
  case round =>
    obtain ⟨k, hk, rfl, rfl, HX⟩ := hrel
    by_cases hlt : k < r
    · have HB := Lib.hid (beg_next k (by omega))
      have hb := beg_le k
      have hp := plc_wid k
      go_wp2_with fail
      refine (find_any k _ (HL.out.ext HX.out)).mono ?_
      rintro e w1 ⟨rfl, hx⟩
      have HX := Lib.hid (HX.out.trans hx)
      clear hx
      go_wp2_with fail
      refine (sectors_any _ _ _ (by omega)).mono ?_
      rintro e w2 ⟨rfl, hx⟩
      have HX := Lib.hid (HX.out.trans hx)
      clear hx
      go_wp2_with fail
      go_roundw
      case rel => exact ⟨k + 1, by omega, by go_num, by rw [show ((k + 1 : Nat) : Int) = (k : Int) + 1 from rfl, HB.out]; go_num, HX⟩
      case measure => simp [intOf]; omega
    · have HK : Hid (k = r) := Lib.hid (by omega)
      go_wp2_with fail
      go_ret
      exact ⟨by rw [HK.out]; rfl, HX.out⟩

theorem all_any (w : World) (hL : LaidT w) :
    Calls Tryz.prog 57 #[] w fun e w' => e = .returned (.int .i64 156) ∧ Ext w w' := by
  have HL := Lib.hid hL
  clear hL
  go_enter Tryz.func57, Tryz.ntmps57
  go_wp2_with fail
  refine (start_any 6 _ HL.out (by omega)).mono ?_
  rintro e w1 ⟨rfl, hx⟩
  have HX := Lib.hid hx
  clear hx
  go_wp2_with fail
  go_ret
  exact ⟨rfl, HX.out⟩

theorem first_any (r p : Int) (w : World) (hL : LaidT w) :
    Calls Tryz.prog 42 #[.int .i64 r, .int .i64 p] w fun e w' => e = .returned (.int .i64 (firstS r p)) ∧ Ext w w' := by
  have HL := Lib.hid hL
  clear hL
  by_cases h0 : p < 0
  · have HF := Lib.hid (firstS_no (r := r) (p := p) (by omega))
    go_enter Tryz.func42, Tryz.ntmps42
    go_wp2_with fail
    go_ret
    exact ⟨by rw [HF.out]; rfl, Ext.refl w⟩
  by_cases h1 : (plc r : Int) ≤ p
  · have HF := Lib.hid (firstS_no (r := r) (p := p) (by omega))
    go_enter Tryz.func42, Tryz.ntmps42
    go_wp2_with fail
    refine (places_any r _ HL.out).mono ?_
    rintro e w1 ⟨rfl, hx⟩
    have HX := Lib.hid hx
    clear hx
    go_wp2_with fail
    go_ret
    exact ⟨by rw [HF.out]; rfl, HX.out⟩
  have hr := plc_some (r := r) (by omega)
  obtain ⟨r, rfl⟩ := Int.eq_ofNat_of_zero_le (show 0 ≤ r by omega)
  have HF := Lib.hid (firstS_yes (r := r) (p := p) (by omega))
  have hb := beg_le r
  have hpl := plc_le r
  have hw0 := wid_le r
  have h2 : 0 ≤ p * (wid r : Int) := Int.mul_nonneg (by omega) (by omega)
  have h3 : p * (wid r : Int) ≤ 48 * 2 := Int.mul_le_mul (by omega) (by omega) (by omega) (by omega)
  go_enter Tryz.func42, Tryz.ntmps42
  go_wp2_with fail
  refine (places_any r _ HL.out).mono ?_
  rintro e w1 ⟨rfl, hx⟩
  have HX := Lib.hid hx
  clear hx
  go_wp2_with fail
  refine (start_any r _ (HL.out.ext HX.out) (by omega)).mono ?_
  rintro e w2 ⟨rfl, hx⟩
  have HX := Lib.hid (HX.out.trans hx)
  clear hx
  go_wp2_with fail
  refine (wide_any r _ (HL.out.ext HX.out)).mono ?_
  rintro e w3 ⟨rfl, hx⟩
  have HX := Lib.hid (HX.out.trans hx)
  clear hx
  go_wp2_with fail
  go_ret
  exact ⟨by rw [HF.out]; rfl, HX.out⟩
end Go.Proofs.YtlikhmhomkiadaaGreatDoor

namespace Go.Proofs.YtlikhmhomkiadaaGreatDoor
set_option maxRecDepth 100000
open Go Go.RowKit

theorem isHurt_of {w : World} {d : Nat} {F : Nat → Prop} {m : DM} (h : PDisk w d F m) (s : Int) :
    Calls Tryz.prog 112 #[.pointer (some ⟨d, 0, none⟩), .int .i64 s] w fun e w' => e = .returned (.bool (m.hurt s)) ∧ Ext w w' := by
  have H := Lib.hid h
  have hr := rest_pd h s
  obtain ⟨l, hl⟩ : ∃ l, (m.at_ s).1 = l := ⟨_, rfl⟩
  obtain ⟨lb, hlb⟩ : ∃ lb, (m.at_ s).2.1 = lb := ⟨_, rfl⟩
  obtain ⟨E, hE⟩ : ∃ E, (m.at_ s).2.2 = E := ⟨_, rfl⟩
  obtain ⟨l2, hl2⟩ : ∃ l, (m.means s).1 = l := ⟨_, rfl⟩
  obtain ⟨E2, hE2⟩ : ∃ E, (m.means s).2 = E := ⟨_, rfl⟩
  have HH : Hid (m.hurt s = (lb || !decide (l = l2))) := Lib.hid (by unfold DM.hurt; rw [hl, hlb, hl2])
  have hm : ∀ w', Ext w w' → Calls Tryz.prog 118 #[.pointer (some ⟨d, 0, none⟩), .int .i64 s] w' fun e w'' => ∃ A n, e = .returned (.tuple #[.slice A n n, .int .i64 E2]) ∧ New w'.heap.size w'' A n l2 ∧ Ext w' w'' := fun w' hx => by
    have := meant_pd (h.ext hx) s
    rwa [hl2, hE2] at this
  rw [hl, hlb, hE] at hr
  have HR := Lib.hid hr
  have HM := Lib.hid hm
  clear h hr hl hlb hE hl2 hE2 hm H
  go_enter Tryz.func112, Tryz.ntmps112
  go_wp2_with fail
  refine HR.out.mono ?_
  rintro e w1 ⟨A, n, rfl, hnew, hx⟩
  have HB := Lib.hid hnew.by
  have HX := Lib.hid hx
  clear hnew hx
  go_wp2_with fail
  refine (HM.out _ HX.out).mono ?_
  rintro e w2 ⟨A2, n2, rfl, hnew, hx⟩
  have HB2 := Lib.hid hnew.by
  have HB := Lib.hid (HB.out.ext hx)
  have HX := Lib.hid (HX.out.trans hx)
  clear hnew hx
  cases lb with
  | true =>
    go_wp2_with fail
    go_ret
    exact ⟨by rw [HH.out]; rfl, HX.out⟩
  | false =>
    go_wp2_with fail
    refine (equal_by A A2 l l2 n n2 n n2 _ HB.out HB2.out).mono ?_
    rintro e w3 ⟨rfl, rfl⟩
    go_wp2_with fail
    go_ret
    exact ⟨by rw [HH.out]; rfl, HX.out⟩

/-- What Size answers of a pointer, now and later. -/
def Sized (w : World) (p : Option Addr) (sz : Nat) : Prop := ∀ w', Ext w w' → Calls Tryz.prog 47 #[.pointer p] w' fun e w'' => e = .returned (.int .i64 (sz : Nat)) ∧ w' = w''
theorem Sized.ext {w w' : World} {p : Option Addr} {sz : Nat} (h : Sized w p sz) (k : Ext w w') : Sized w' p sz := fun _ hx => h _ (k.trans hx)
theorem Sized.of {w : World} {d : Nat} {F : Nat → Prop} {m : DM} (h : PDisk w d F m) : Sized w (some ⟨d, 0, none⟩) m.size := fun _ hx => size_pd (h.ext hx)

end Go.Proofs.YtlikhmhomkiadaaGreatDoor

namespace Go.Proofs.YtlikhmhomkiadaaGreatDoor
set_option maxRecDepth 100000
open Go Go.RowKit

/-- The disk at d, all of whose blocks were made since w0; nothing that was there in w0 has been written. -/
structure DK (w0 w : World) (d : Nat) (F : Nat → Prop) (m : DM) : Prop where
  disk : PDisk w d F m
  low : ∀ k, F k → w0.heap.size ≤ k
  bel : Ext w0 w
theorem DK.ext {w0 w w' : World} {d : Nat} {F : Nat → Prop} {m : DM} (h : DK w0 w d F m) (k : Ext w w') : DK w0 w' d F m := ⟨h.disk.ext k, h.low, h.bel.trans k⟩
theorem DK.step {w0 w w' : World} {d : Nat} {F : Nat → Prop} {m m' : DM} (h : DK w0 w d F m) (hp : PDisk w' d (grow F w w') m') (hm : Mod F w w') : DK w0 w' d (grow F w w') m' :=
  ⟨hp, fun k hk => hk.elim (h.low k) fun h2 => Nat.le_trans h.bel.size h2.1, Below.mod h.bel hm h.bel.size h.low⟩
theorem DK.mod {w0 w w' : World} {d : Nat} {F G : Nat → Prop} {m : DM} (h : DK w0 w d F m) (hm : Mod G w w') (hG : ∀ k, F k → ¬ G k) (hl : ∀ k, G k → w0.heap.size ≤ k) : DK w0 w' d F m :=
  ⟨h.disk.mod hm hG, h.low, Below.mod h.bel hm h.bel.size hl⟩
/-- Values that came in lie in none of the disk's blocks. -/
theorem DK.vs {w0 w : World} {d : Nat} {F : Nat → Prop} {m : DM} (h : DK w0 w d F m) {A : Option Addr} {n c : Nat} {vs : List Value} (hv : Vs w0 w0.heap.size A n c vs) : 0 < n → Off F A := fun hn p hp hf => by
  obtain ⟨g, o, e, hg, _⟩ := hv.rd hn
  rw [e] at hp
  injection hp with hp
  subst hp
  have := h.low _ hf
  have hg' : g < w0.heap.size := hg
  have : w0.heap.size ≤ g := this
  omega
end Go.Proofs.YtlikhmhomkiadaaGreatDoor

namespace Go.Proofs.YtlikhmhomkiadaaGreatDoor
set_option maxRecDepth 100000
open Go Go.RowKit

/-- What Great answers. -/
def GreatE (n : Nat) (l : List Act5) (w : World) (e : Ending) (w' : World) : Prop := ∃ b : Bool, e = .returned (.bool b) ∧ w = w' ∧ (b = false → n ≤ 120 ∧ ∀ a ∈ l, a.bn ≤ 200 ∧ a.kn ≤ 100)

set_option maxRecDepth 100000 in
set_option maxHeartbeats 1600000 in
theorem great_of {w : World} {B : Nat} (A : Option Addr) (n c : Nat) (l : List Act5) (h : Acts w B A n c l) :
    Calls Tryz.prog 37 #[.slice A n c] w (GreatE n l w) := by
  have HA := Lib.hid h
  have hn := Nat.zero_le n
  clear h
  go_enter Tryz.func37, Tryz.ntmps37
  by_cases hn120 : 120 < n
  · go_wp2_with fail
    go_ret
    exact ⟨true, rfl, rfl, fun h => by cases h⟩
  go_wp2_with fail
  go_loopw [3] (fun i wr => ∃ k : Nat, k ≤ n ∧ i = .int .i64 k ∧ wr = w ∧ Hid (∀ a ∈ l.take k, a.bn ≤ 200 ∧ a.kn ≤ 100)) (fun i _ => n - (intOf i).toNat)
  case atStart => exact ⟨0, Nat.zero_le _, rfl, rfl, Lib.hid fun a ha => by simp at ha⟩
  case round =>
    obtain ⟨k, hkn, rfl, rfl, HT⟩ := hrel
    by_cases hlt : k < n
    · obtain ⟨g, o, a, rfl, hg, ha, hok, h0, h1, h2, h3, h4⟩ := HA.out.at_ hlt
      have HAL := Lib.hid ha
      by_cases hb : 200 < a.bn
      · clear ha hok
        go_wp2_with fail
        go_ret
        exact ⟨true, rfl, rfl, fun h => by cases h⟩
      · by_cases hk : 100 < a.kn
        · clear ha hok
          go_wp2_with fail
          go_ret
          exact ⟨true, rfl, rfl, fun h => by cases h⟩
        · clear ha hok
          go_wp2_with fail
          go_roundw
          case rel => exact ⟨k + 1, by omega, by go_num, by first | rfl | trivial, Lib.hid fun b hb' => by
            rw [List.take_add_one, HAL.out] at hb'
            rcases List.mem_append.1 hb' with h | h
            · exact HT.out b h
            · simp only [Option.toList_some, List.mem_singleton] at h
              subst h
              exact ⟨by omega, by omega⟩⟩
          case measure => simp [intOf]; omega
    · go_wp2_with fail
      go_ret
      refine ⟨false, rfl, rfl, fun _ => ⟨by omega, fun a ha => HT.out a ?_⟩⟩
      rw [List.take_of_length_le (by have := HA.out.len; omega)]
      exact ha
end Go.Proofs.YtlikhmhomkiadaaGreatDoor

namespace Go.Proofs.YtlikhmhomkiadaaGreatDoor
set_option maxRecDepth 100000
open Go Go.RowKit

/-- The sectors of a frame, written one behind the other. -/
def DM.puts (m : DM) (s : Int) (L : List Nat) : Nat → DM
  | 0 => m
  | k + 1 => ((m.puts s L k).write (s + (k : Int)) ((L.drop (64 * k)).take 64)).2
/-- How many sectors a tag's place has. -/
def wideN (a b c d e : Int) : Nat := if mayB a b c d e = true then wid b else 0
theorem wideN_le (a b c d e : Int) : wideN a b c d e ≤ 2 := by
  unfold wideN
  split
  · exact wid_le b
  · omega
def Act6.sE (x : Act6) : Int := sealE x.ta x.tb x.tc x.td x.te x.bn (wideN x.ta x.tb x.tc x.td x.te : Nat)
def Act6.sL (x : Act6) : List Nat := sealL x.ta x.tb x.tc x.td x.te x.bl (wideN x.ta x.tb x.tc x.td x.te : Nat)
/-- What an act makes of a disk. -/
def DM.act6 (m : DM) (x : Act6) : DM :=
  if x.sl = true then (if x.sE = 0 then m.puts (firstS x.tb x.tc) x.sL (wideN x.ta x.tb x.tc x.td x.te) else m) else (m.act x.act.kind x.act.sec x.act.num x.act.bl x.act.kl).2
theorem puts_waits (m : DM) (s : Int) (L : List Nat) (k : Nat) : (m.puts s L k).waits.length ≤ m.waits.length + k := by
  induction k with
  | zero => exact Nat.le_refl _
  | succ k ih =>
    unfold DM.puts DM.write
    split
    · show (m.puts s L k).waits.length ≤ _; omega
    · split
      · show (m.puts s L k).waits.length ≤ _; omega
      · split
        · show (m.puts s L k).waits.length ≤ _; omega
        · simp; omega
theorem act6_waits (m : DM) (x : Act6) : (m.act6 x).waits.length ≤ m.waits.length + 2 := by
  unfold DM.act6
  split
  · split
    · have h1 := puts_waits m (firstS x.tb x.tc) x.sL (wideN x.ta x.tb x.tc x.td x.te)
      have h2 := wideN_le x.ta x.tb x.tc x.td x.te
      omega
    · omega
  · have := act_waits m x.act.kind x.act.sec x.act.num x.act.bl x.act.kl
    omega

set_option maxHeartbeats 800000 in
theorem wide6_any (a b c d e : Int) (w : World) (hL : LaidT w) :
    Calls Tryz.prog 40 #[.agg #[.int .i64 a, .int .i64 b, .int .i64 c, .int .i64 d, .int .i64 e]] w fun r w' => r = .returned (.int .i64 (wideN a b c d e : Nat)) ∧ Ext w w' := by
  have hE := (Ext.refl w).alloc (.cells #[.int .i64 a, .int .i64 b, .int .i64 c, .int .i64 d, .int .i64 e] 33)
  have HT := Lib.hid (heap_alloc_new w (.cells #[.int .i64 a, .int .i64 b, .int .i64 c, .int .i64 d, .int .i64 e] 33))
  have HE := Lib.hid hE
  have HL := Lib.hid hL
  clear hE hL
  obtain ⟨W, hW⟩ : ∃ W, wideN a b c d e = W := ⟨_, rfl⟩
  rw [hW]
  by_cases hm : mayB a b c d e = true
  · have HW : Hid (wid b = W) := Lib.hid (by rw [← hW]; unfold wideN; rw [if_pos hm])
    clear hW
    go_enter Tryz.func40, Tryz.ntmps40
    go_wp2_with fail
    refine (may_any _ _ _ _ _ _ (HL.out.ext HE.out)).mono ?_
    rw [hm]
    rintro r w1 ⟨rfl, hx⟩
    have ht := (hx.block _ (Array.getElem?_eq_some_iff.1 HT.out).1).trans HT.out
    have HE := Lib.hid (HE.out.trans hx)
    obtain ⟨⟨i0, i1, i2, i3, i4⟩, _⟩ := five_cells ht
    clear hx ht hm
    go_wp2_with fail
    refine (wide_any _ _ (HL.out.ext HE.out)).mono ?_
    rw [HW.out]
    rintro r w2 ⟨rfl, hx⟩
    have HE := Lib.hid (HE.out.trans hx)
    clear hx
    go_wp2_with fail
    go_ret
    exact ⟨rfl, HE.out⟩
  · have hm' : mayB a b c d e = false := by simpa using hm
    have HW : Hid (W = 0) := Lib.hid (by rw [← hW]; unfold wideN; rw [if_neg hm])
    clear hW hm
    go_enter Tryz.func40, Tryz.ntmps40
    go_wp2_with fail
    refine (may_any _ _ _ _ _ _ (HL.out.ext HE.out)).mono ?_
    rw [hm']
    rintro r w1 ⟨rfl, hx⟩
    have HE := Lib.hid (HE.out.trans hx)
    clear hx hm'
    go_wp2_with fail
    go_ret
    exact ⟨by rw [HW.out]; rfl, HE.out⟩

/-- What Great answers of ghost's acts. -/
def Great6E (n : Nat) (l : List Act6) (w : World) (e : Ending) (w' : World) : Prop := ∃ b : Bool, e = .returned (.bool b) ∧ Ext w w' ∧ (b = false → n ≤ 60 ∧ ∀ a ∈ l, a.bn ≤ 100 ∧ a.act.bn ≤ 200 ∧ a.act.kn ≤ 100)
theorem acts_one6 (w : World) (a : Act5) (h : a.Ok w w.heap.size) : Acts (w.alloc (.cells #[.int .u8 (a.kind : Int), .int .i64 a.sec, .int .i64 a.num, .slice a.bA a.bn a.bc, .slice a.kA a.kn a.kc] 37)) (w.alloc (.cells #[.int .u8 (a.kind : Int), .int .i64 a.sec, .int .i64 a.num, .slice a.bA a.bn a.bc, .slice a.kA a.kn a.kc] 37)).heap.size (some ⟨w.heap.size, 0, none⟩) 1 1 [a] := by
  refine ⟨rfl, Nat.le_refl _, by omega, fun b hb => ?_, fun _ => ⟨w.heap.size, 0, rfl, by simp, fun j b hb k v hv => ?_⟩, fun h => by cases h⟩
  · obtain rfl := List.mem_singleton.1 hb
    exact (h.below ((Ext.refl w).alloc _)).more ((Ext.refl w).alloc _).size
  · match j, hb with
    | 0, hb =>
      injection hb with hb
      subst hb
      rw [World.cell?_alloc_new]
      rw [show 0 + (0 * 5 + k) = k by omega]
      exact (List.getElem?_toArray ..).trans hv

set_option maxRecDepth 100000 in
set_option maxHeartbeats 1600000 in
theorem great6_of {w : World} {B : Nat} (hBw : B ≤ w.heap.size) (A : Option Addr) (n c : Nat) (l : List Act6) (h : Acts6 w B A n c l) :
    Calls Tryz.prog 6 #[.slice A n c] w (Great6E n l w) := by
  have HA := Lib.hid h
  have hn := Nat.zero_le n
  have HBW := Lib.hid hBw
  clear h hBw
  go_enter Tryz.func6, Tryz.ntmps6
  by_cases hn120 : 60 < n
  · go_wp2_with fail
    go_ret
    exact ⟨true, rfl, Ext.refl _, fun h => by cases h⟩
  go_wp2_with fail
  go_loopw [3] (fun i wr => ∃ k : Nat, k ≤ n ∧ i = .int .i64 k ∧ Hid (Ext w wr) ∧ Hid (∀ a ∈ l.take k, a.bn ≤ 100 ∧ a.act.bn ≤ 200 ∧ a.act.kn ≤ 100)) (fun i _ => n - (intOf i).toNat)
  case atStart => exact ⟨0, Nat.zero_le _, rfl, Lib.hid (Ext.refl _), Lib.hid fun a ha => by simp at ha⟩
  case round =>
    obtain ⟨k, hkn, rfl, HX, HT⟩ := hrel
    by_cases hlt : k < n
    · obtain ⟨g, o, a, rfl, hg, ha, hok, hc⟩ := HA.out.at_ hlt
      have HAL := Lib.hid ha
      have HOK : Hid (a.act.Ok wr wr.heap.size) := Lib.hid ((hok.act.below (HX.out.mono HBW.out)).more (Nat.le_trans HBW.out HX.out.size))
      obtain ⟨h0, h1, h2, h3, h4, h5, h6, h7, h8, h9, h10, h11⟩ := hc.below (HX.out.mono HBW.out) hg
      by_cases hb : 100 < a.bn
      · clear ha hok hc
        go_wp2_with fail
        go_ret
        exact ⟨true, rfl, HX.out, fun h => by cases h⟩
      · clear ha hok hc h0 h1 h2 h3 h4 h5
        go_wp2_with fail
        refine (great_of _ 1 1 [a.act] (acts_one6 wr a.act HOK.out)).mono ?_
        rintro e w2 ⟨b, rfl, rfl, hgr⟩
        have HX2 := Lib.hid (HX.out.alloc (.cells #[.int .u8 (a.act.kind : Int), .int .i64 a.act.sec, .int .i64 a.act.num, .slice a.act.bA a.act.bn a.act.bc, .slice a.act.kA a.act.kn a.act.kc] 37))
        have HGR := Lib.hid hgr
        clear hgr
        cases b with
        | true =>
          go_wp2_with fail
          go_ret
          exact ⟨true, rfl, HX2.out, fun h => by cases h⟩
        | false =>
          go_wp2_with fail
          go_roundw
          case rel => exact ⟨k + 1, by omega, by go_num, HX2, Lib.hid fun b hb' => by
            rw [List.take_add_one, HAL.out] at hb'
            rcases List.mem_append.1 hb' with h | h
            · exact HT.out b h
            · simp only [Option.toList_some, List.mem_singleton] at h
              subst h
              have := (HGR.out (by trivial)).2 b.act (List.mem_singleton.2 rfl)
              exact ⟨by omega, this.1, this.2⟩⟩
          case measure => simp [intOf]; omega
    · go_wp2_with fail
      go_ret
      refine ⟨false, rfl, HX.out, fun _ => ⟨by omega, fun a ha => HT.out a ?_⟩⟩
      rw [List.take_of_length_le (by have := HA.out.len; omega)]
      exact ha
end Go.Proofs.YtlikhmhomkiadaaGreatDoor

namespace Go.Proofs.YtlikhmhomkiadaaGreatDoor
set_option maxRecDepth 100000
open Go Go.RowKit

theorem sealE_zero {a b c d e s : Int} {n : Nat} : sealE a b c d e n s = 0 ↔ roomN s ≠ 0 ∧ mayB a b c d e = true ∧ n ≤ roomN s := by
  constructor
  · intro h
    by_cases h1 : roomN s = 0 ∨ mayB a b c d e = false
    · rw [sealE_arg h1] at h; cases h
    · have h0 : roomN s ≠ 0 := fun hh => h1 (.inl hh)
      have hm : mayB a b c d e = true := by
        by_cases hm : mayB a b c d e = true
        · exact hm
        · exact absurd (.inr (by simpa using hm)) h1
      refine ⟨h0, hm, ?_⟩
      rcases Nat.lt_or_ge (roomN s) n with h2 | h2
      · rw [sealE_long h0 hm h2] at h; cases h
      · exact h2
  · rintro ⟨h0, hm, hn⟩
    exact sealE_yes h0 hm hn
theorem sealL_len {a b c d e s : Int} {body : List Nat} (h : sealE a b c d e body.length s = 0) : (sealL a b c d e body s).length = 64 * s.toNat ∧ 1 ≤ s ∧ s ≤ 2 := by
  obtain ⟨h0, hm, hn⟩ := sealE_zero.1 h
  obtain ⟨S, rfl⟩ := Int.eq_ofNat_of_zero_le (show 0 ≤ s by have := roomN_pos (s := s) (by omega); omega)
  have hfit := room_fits hn (by omega)
  rw [sealL_yes h, Int.toNat_natCast, frameL_len (by rw [pl_yes hm, tagBytes_len]) (by omega) (by omega)]
  omega
theorem sealL_good {a b c d e s : Int} {body : List Nat} (h : sealE a b c d e body.length s = 0) : goodB (sealL a b c d e body s) = true ∧ obl (sealL a b c d e body s) = body ∧ (ofl (sealL a b c d e body s) 0 : Int) = a ∧ (ofl (sealL a b c d e body s) 1 : Int) = b ∧ (ofl (sealL a b c d e body s) 2 : Int) = c ∧ (ofl (sealL a b c d e body s) 3 : Int) = d ∧ (ofl (sealL a b c d e body s) 4 : Int) = e := by
  obtain ⟨h0, hm, hn⟩ := sealE_zero.1 h
  obtain ⟨S, rfl⟩ := Int.eq_ofNat_of_zero_le (show 0 ≤ s by have := roomN_pos (s := s) (by omega); omega)
  obtain ⟨a, b, c, d, e, rfl, rfl, rfl, rfl, rfl⟩ := may_nat hm
  have hb88 := roomN_le (S : Int)
  rw [sealL_yes h, Int.toNat_natCast, pl_yes hm]
  simp only [Int.toNat_natCast]
  have hg := seal_good (S := S) hm hn (by omega)
  have hr := (PV_tag hm).2
  rw [ofl_yes hg, ofl_yes hg, ofl_yes hg, ofl_yes hg, ofl_yes hg, obl_yes hg, read_tag (tagBytes_len a b c d e), read_body (tagBytes_len a b c d e) (by omega), hr 0 (by omega), hr 1 (by omega), hr 2 (by omega), hr 3 (by omega), hr 4 (by omega)]
  exact ⟨hg, rfl, rfl, rfl, rfl, rfl, rfl⟩
theorem sealL_lt {a b c d e s : Int} {body : List Nat} (hb : ∀ x ∈ body, x < 256) : ∀ x ∈ sealL a b c d e body s, x < 256 := by
  by_cases h : sealE a b c d e body.length s = 0
  · rw [sealL_yes h]
    refine frameL_lt hb ?_
    rw [pl_yes (sealE_zero.1 h).2.1]
    exact tagBytes_lt _ _ _ _ _
  · rw [sealL_no h]
    simp

end Go.Proofs.YtlikhmhomkiadaaGreatDoor

namespace Go.Proofs.YtlikhmhomkiadaaGreatDoor
set_option maxRecDepth 100000
open Go Go.RowKit

/-- A box that holds an act. -/
def box6 (x : Act6) : Obj := .cells #[.bool x.sl, .int .i64 x.ta, .int .i64 x.tb, .int .i64 x.tc, .int .i64 x.td, .int .i64 x.te, .slice x.bA x.bn x.bc, .int .u8 (x.act.kind : Int), .int .i64 x.act.sec, .int .i64 x.act.num, .slice x.act.bA x.act.bn x.act.bc, .slice x.act.kA x.act.kn x.act.kc] 39
theorem box6_cells {w : World} {g : Nat} {x : Act6} (h : w.heap[g]? = some (box6 x)) : w.cell? ⟨g, 0, none⟩ = some (.bool x.sl) ∧ w.cell? ⟨g, 1, none⟩ = some (.int .i64 x.ta) ∧ w.cell? ⟨g, 2, none⟩ = some (.int .i64 x.tb) ∧ w.cell? ⟨g, 3, none⟩ = some (.int .i64 x.tc) ∧ w.cell? ⟨g, 4, none⟩ = some (.int .i64 x.td) ∧ w.cell? ⟨g, 5, none⟩ = some (.int .i64 x.te) ∧
    w.cell? ⟨g, 6, none⟩ = some (.slice x.bA x.bn x.bc) ∧ w.cell? ⟨g, 7, none⟩ = some (.int .u8 (x.act.kind : Int)) ∧ w.cell? ⟨g, 8, none⟩ = some (.int .i64 x.act.sec) ∧ w.cell? ⟨g, 9, none⟩ = some (.int .i64 x.act.num) ∧ w.cell? ⟨g, 10, none⟩ = some (.slice x.act.bA x.act.bn x.act.bc) ∧ w.cell? ⟨g, 11, none⟩ = some (.slice x.act.kA x.act.kn x.act.kc) :=
  ⟨cell_of_row w g 0 _ _ _ h, cell_of_row w g 1 _ _ _ h, cell_of_row w g 2 _ _ _ h, cell_of_row w g 3 _ _ _ h, cell_of_row w g 4 _ _ _ h, cell_of_row w g 5 _ _ _ h, cell_of_row w g 6 _ _ _ h, cell_of_row w g 7 _ _ _ h, cell_of_row w g 8 _ _ _ h, cell_of_row w g 9 _ _ _ h, cell_of_row w g 10 _ _ _ h, cell_of_row w g 11 _ _ _ h⟩
/-- A piece of 64 bytes within a slice. -/
theorem By.piece {w : World} {g o n c : Nat} {l : List Nat} (h : By w (some ⟨g, o, none⟩) n c l) (k : Nat) (hk : k + 64 ≤ n) : By w (some ⟨g, o + k, none⟩) 64 (c - k) ((l.drop k).take 64) := by
  have hl := h.len
  have hc := h.cap
  refine ⟨by rw [List.length_take, List.length_drop]; omega, by omega, by have := h.most; omega, (h.rd.drop rfl k).take 64, fun e => by cases e⟩
/-- What a disk's calls have left behind. -/
structure Left (w0 w : World) (d : Nat) (F : Nat → Prop) (G : Nat → Prop) (v : World) (m : DM) : Prop where
  dk : DK w0 v d F m
  le : ∀ i, F i → G i
  mod : Mod G w v
theorem Left.step {w0 w v v' : World} {d : Nat} {F G : Nat → Prop} {m m' : DM} (h : Left w0 w d F G v m) (hG : ∀ i, v.heap.size ≤ i → G i) (hp : PDisk v' d (grow F v v') m') (hm : Mod F v v') : Left w0 w d (grow F v v') G v' m' :=
  ⟨h.dk.step hp hm, fun i hi => hi.elim (h.le i) fun hh => hG i hh.1, h.mod.trans hm fun i hi => .inl (h.le i hi)⟩
theorem Left.ext {w0 w v v' : World} {d : Nat} {F G : Nat → Prop} {m : DM} (h : Left w0 w d F G v m) (hx : Ext v v') : Left w0 w d F G v' m := ⟨h.dk.ext hx, h.le, h.mod.ext hx⟩

theorem keep_box {u V w' : World} {g : Nat} {x0 x1 x2 x3 x4 x5 x6 x7 x8 x9 x10 x11 : Value} {t : TypeId} (k : Hid (Ext u w')) (hV : u = V.drew) (h : Hid (V.heap[g]? = some (.cells #[x0, x1, x2, x3, x4, x5, x6, x7, x8, x9, x10, x11] t (0, 0)))) :
    w'.cell? ⟨g, 1, none⟩ = some x1 ∧ w'.cell? ⟨g, 2, none⟩ = some x2 ∧ w'.cell? ⟨g, 3, none⟩ = some x3 ∧ w'.cell? ⟨g, 4, none⟩ = some x4 ∧ w'.cell? ⟨g, 5, none⟩ = some x5 ∧ w'.cell? ⟨g, 6, none⟩ = some x6 := by
  subst hV
  have h2 := (k.out.block g (Array.getElem?_eq_some_iff.1 h.out).1).trans h.out
  exact ⟨cell_of_row w' g 1 _ _ _ h2, cell_of_row w' g 2 _ _ _ h2, cell_of_row w' g 3 _ _ _ h2, cell_of_row w' g 4 _ _ _ h2, cell_of_row w' g 5 _ _ _ h2, cell_of_row w' g 6 _ _ _ h2⟩
theorem keep_two2 {u w' : World} {g : Nat} {x0 x1 x2 x3 x4 x5 x6 x7 x8 x9 x10 x11 : Value} {t : TypeId} {G : Nat → Prop} (k : Hid (Mod G u w')) (hg : Hid (¬ G g)) (h : Hid (u.heap[g]? = some (.cells #[x0, x1, x2, x3, x4, x5, x6, x7, x8, x9, x10, x11] t (0, 0)))) :
    w'.cell? ⟨g, 2, none⟩ = some x2 ∧ w'.cell? ⟨g, 3, none⟩ = some x3 := by
  have h2 := heap_mod h.out k.out hg.out
  exact ⟨cell_of_row w' g 2 _ _ _ h2, cell_of_row w' g 3 _ _ _ h2⟩
theorem firstS_in (g p : Int) : -1 ≤ firstS g p ∧ firstS g p ≤ 156 := by
  have h1 := beg_le g
  have h2 := wid_le g
  by_cases hh : 0 ≤ p ∧ p < plc g
  · rw [firstS_yes hh]
    have hr := plc_some (r := g) (by omega)
    rcases region_cases hr with rfl | rfl | rfl | rfl | rfl <;> simp [beg, plc, wid] at hh ⊢ <;> omega
  · rw [firstS_no hh]; omega
theorem off_piece {F G : Nat → Prop} {g o o' : Nat} (hF : ∀ i, F i → G i) (h : Off G (some ⟨g, o, none⟩)) : Off F (some ⟨g, o', none⟩) := fun p hp hh => by
  injection hp with hp
  subst hp
  exact h _ rfl (hF _ hh)
end Go.Proofs.YtlikhmhomkiadaaGreatDoor

namespace Go.Proofs.YtlikhmhomkiadaaGreatDoor
set_option maxRecDepth 100000
open Go Go.RowKit

/-- A disk that is up, and has power for some writes. -/
structure Ready (m : DM) (j : Nat) : Prop where
  up : m.up = true
  size : m.size = 156
  power : m.power = -1 ∨ (j : Int) ≤ m.power
theorem Ready.write {m : DM} {j : Nat} (h : Ready m (j + 1)) {s : Int} (h0 : 0 ≤ s) (h1 : s < 156) {b : List Nat} (hb : b.length = 64) : m.write s b = (0, { m with power := lessP m.power, waits := m.waits ++ [(s.toNat, b)] }) ∧ Ready (m.write s b).2 j := by
  have hh : m.has s = true := DM.has_iff.2 ⟨h0, by rw [h.size]; exact h1⟩
  have hp0 : m.power ≠ 0 := by rcases h.power with h | h <;> omega
  have e : m.write s b = (0, { m with power := lessP m.power, waits := m.waits ++ [(s.toNat, b)] }) := by
    unfold DM.write
    rw [if_neg (by rw [h.up]; simp), if_neg (by rw [hh, hb]; simp), if_neg hp0]
  refine ⟨e, ?_⟩
  rw [e]
  refine ⟨h.up, h.size, ?_⟩
  show lessP m.power = -1 ∨ _ ≤ lessP m.power
  unfold lessP
  rcases h.power with hp | hp
  · left; rw [hp]; decide
  · right; rw [if_pos (by omega)]; omega
theorem Ready.flush {m : DM} {j : Nat} (h : Ready m (j + 1)) : m.flush = (0, { ({ m with power := lessP m.power } : DM).comes m.waits with waits := [] }) := by
  have hp0 : m.power ≠ 0 := by rcases h.power with h | h <;> omega
  unfold DM.flush
  rw [if_neg (by rw [h.up]; simp), if_neg hp0]
theorem Ready.puts {m : DM} {S : Int} {L : List Nat} {W j : Nat} (h : Ready m (j + W)) (h0 : 0 ≤ S) (h1 : S + W ≤ 156) (hl : L.length = 64 * W) : ∀ k, k ≤ W → Ready (m.puts S L k) (j + W - k) := by
  intro k
  induction k with
  | zero => intro _; exact h
  | succ k ih =>
    intro hk
    have hr := ih (by omega)
    rw [show j + W - k = (j + W - (k + 1)) + 1 by omega] at hr
    exact (hr.write (s := S + (k : Int)) (by omega) (by omega) (b := (L.drop (64 * k)).take 64) (by rw [List.length_take, List.length_drop]; omega)).2

/-- What put leaves: the frame's sectors, written and flushed. -/
def DM.put (m : DM) (s : Int) (L : List Nat) (W : Nat) : DM := (m.puts s L W).flush.2

end Go.Proofs.YtlikhmhomkiadaaGreatDoor

namespace Go.Proofs.YtlikhmhomkiadaaGreatDoor
set_option maxRecDepth 100000
open Go Go.RowKit

/-- What the observers gather, sector by sector: a row of the call's own. -/
structure Gath (w0 w : World) (v : Value) (l : List Nat) (k : Nat) : Prop where
  own : w.ownsRow w0.heap.size 5 1 v l.length (vb l)
  lt : ∀ b ∈ l, b < 256
  few : l.length ≤ 64 * k
  ext : Ext w0 w
theorem Gath.start (w : World) : Gath w w (.slice none 0 0) [] 0 := ⟨World.ownsRow_nil _ _ _ _, fun b hb => (by cases hb), by simp, Ext.refl w⟩
theorem Gath.more {w0 w w' : World} {v : Value} {l : List Nat} {k : Nat} (h : Gath w0 w v l k) (hx : Ext w w') : Gath w0 w' v l k := ⟨own_ext h.own hx, h.lt, h.few, h.ext.trans hx⟩
theorem Gath.form {w0 w : World} {v : Value} {l : List Nat} {k : Nat} (h : Gath w0 w v l k) : ∃ A c, v = .slice A l.length c ∧ By w A l.length c l := by
  obtain ⟨A, c, rfl, _, _⟩ := own_form h.own
  exact ⟨A, c, rfl, Bs.of_own h.own h.lt⟩
end Go.Proofs.YtlikhmhomkiadaaGreatDoor

namespace Go.Proofs.YtlikhmhomkiadaaGreatDoor
set_option maxRecDepth 100000

theorem write_size (m : DM) (s : Int) (b : List Nat) : (m.write s b).2.size = m.size := by
  unfold DM.write
  split
  · rfl
  · split
    · rfl
    · split <;> rfl
theorem puts_size (m : DM) (S : Int) (L : List Nat) (k : Nat) : (m.puts S L k).size = m.size := by
  induction k with
  | zero => rfl
  | succ k ih => exact (write_size _ _ _).trans ih
theorem flush_size (m : DM) : m.flush.2.size = m.size := by
  unfold DM.flush
  split
  · rfl
  · split
    · rfl
    · exact DM.comes_size _ _
theorem act_size (m : DM) (kind : Nat) (sec num : Int) (bytes : List Nat) (keep : List Bool) : (m.act kind sec num bytes keep).2.size = m.size := by
  unfold DM.act
  split
  · exact flush_size m
  · unfold DM.crash; split
    · rfl
    · exact DM.comes_size _ _
  · unfold DM.start; split <;> rfl
  · unfold DM.flip; split
    · rfl
    · simp [DM.size]
  · unfold DM.lose; split <;> rfl
  · unfold DM.stray; split
    · rfl
    · simp [DM.size]
  · unfold DM.setPower; split
    · rfl
    · split <;> rfl
  · exact write_size _ _ _
theorem act6_size (m : DM) (x : Act6) : (m.act6 x).size = m.size := by
  unfold DM.act6
  split
  · split
    · exact puts_size _ _ _ _
    · rfl
  · exact act_size _ _ _ _ _ _

/-- A disk without faults. -/
structure NInv (m : DM) : Prop where
  ok : m.Ok
  same : ∀ i, m.rest.getD i [] = m.meant.getD i []
  none_ : ∀ i, m.lost.getD i false = false
theorem NInv.of_eq {m m' : DM} (h : NInv m) (hok : m'.Ok) (h1 : m'.rest = m.rest) (h2 : m'.meant = m.meant) (h3 : m'.lost = m.lost) : NInv m' :=
  ⟨hok, fun i => by rw [h1, h2]; exact h.same i, fun i => by rw [h3]; exact h.none_ i⟩
theorem NInv.comes {m : DM} (h : NInv m) {l : List (Nat × List Nat)} (hl : ∀ x ∈ l, x ∈ m.waits) : NInv (m.comes l) := by
  have g := comes_get l m h.ok fun x hx => (h.ok.waits x (hl x hx)).1
  refine ⟨DM.comes_ok l h.ok fun x hx => (h.ok.waits x (hl x hx)).2, fun i => ?_, fun i => ?_⟩
  · rw [(g i).1, (g i).2.1, h.same i]
  · rw [(g i).2.2, h.none_ i]
    split <;> rfl
theorem NInv.write {m : DM} (h : NInv m) (s : Int) {b : List Nat} (hb : ∀ x ∈ b, x < 256) : NInv (m.write s b).2 := by
  have hok := DM.write_ok h.ok s hb
  revert hok
  unfold DM.write
  split
  · intro _; exact h
  · split
    · intro _; exact h
    · split
      · intro hok; exact h.of_eq hok rfl rfl rfl
      · intro hok; exact h.of_eq hok rfl rfl rfl
theorem NInv.act {m : DM} (h : NInv m) (kind : Nat) (sec num : Int) {bytes : List Nat} (hb : ∀ x ∈ bytes, x < 256) (keep : List Bool) (hk : ¬ (3 ≤ kind % 9 ∧ kind % 9 ≤ 5)) : NInv (m.act kind sec num bytes keep).2 := by
  have hok := DM.act_ok h.ok kind sec num hb keep
  have h9 : kind % 9 < 9 := Nat.mod_lt _ (by omega)
  have hcase : kind % 9 = 0 ∨ kind % 9 = 1 ∨ kind % 9 = 2 ∨ kind % 9 = 6 ∨ kind % 9 = 7 ∨ kind % 9 = 8 := by omega
  unfold DM.act at hok ⊢
  rcases hcase with e | e | e | e | e | e
  · simp only [e] at hok ⊢
    revert hok
    unfold DM.flush
    split
    · intro _; exact h
    · split
      · intro hok; exact h.of_eq hok rfl rfl rfl
      · intro hok
        have h2 : NInv { m with power := lessP m.power } := h.of_eq ⟨h.ok.meant, h.ok.lost, h.ok.rests, h.ok.means, h.ok.waits, lessP_le h.ok.power⟩ rfl rfl rfl
        exact (h2.comes (l := m.waits) fun x hx => hx).of_eq hok rfl rfl rfl
  · simp only [e] at hok ⊢
    revert hok
    unfold DM.crash
    split
    · intro _; exact h
    · intro hok; exact (h.comes (l := kept m.waits keep) fun x hx => kept_mem hx).of_eq hok rfl rfl rfl
  · simp only [e] at hok ⊢
    revert hok
    unfold DM.start
    split
    · intro _; exact h
    · intro hok; exact h.of_eq hok rfl rfl rfl
  · simp only [e] at hok ⊢
    exact h.write sec (actB_lt hb)
  · simp only [e] at hok ⊢
    exact h.write sec (actB_lt hb)
  · simp only [e] at hok ⊢
    revert hok
    unfold DM.setPower
    split
    · intro _; exact h
    · split
      · intro _; exact h
      · intro hok; exact h.of_eq hok rfl rfl rfl
theorem NInv.puts {m : DM} (h : NInv m) {S : Int} {L : List Nat} (hl : ∀ x ∈ L, x < 256) (k : Nat) : NInv (m.puts S L k) := by
  induction k with
  | zero => exact h
  | succ k ih => exact ih.write _ fun x hx => hl x (List.mem_of_mem_drop (List.mem_of_mem_take hx))
theorem NInv.act6 {m : DM} (h : NInv m) {x : Act6} (hb : ∀ y ∈ x.bl, y < 256) (ha : ∀ y ∈ x.act.bl, y < 256) (hk : x.sl = true ∨ ¬ (3 ≤ x.act.kind % 9 ∧ x.act.kind % 9 ≤ 5)) : NInv (m.act6 x) := by
  unfold DM.act6
  split
  · split
    · exact h.puts (fun y hy => sealL_lt hb y hy) _
    · exact h
  · rename_i hs
    exact h.act _ _ _ ha _ (hk.resolve_left hs)
theorem NInv.hurt {m : DM} (h : NInv m) (s : Int) : m.hurt s = false := by
  unfold DM.hurt DM.at_ DM.means
  by_cases hh : m.has s = false
  · rw [if_pos hh, if_pos hh]; rfl
  · rw [if_neg hh, if_neg hh, h.none_, h.same]
    simp
theorem NInv.new (n : Nat) : NInv (DM.new n) := by
  refine ⟨DM.new_ok n, fun i => rfl, fun i => ?_⟩
  show (List.replicate n false).getD i false = false
  rw [List.getD_eq_getElem?_getD, List.getElem?_replicate]
  split <;> rfl

/-- Faults leave what is meant. -/
structure MInv (m : DM) (M : List (List Nat)) : Prop where
  ok : m.Ok
  size : m.size = 156
  meant : m.meant = M
theorem MInv.means {m m' : DM} {M : List (List Nat)} (h : MInv m M) (h' : MInv m' M) (s : Int) : m.means s = m'.means s := by
  unfold DM.means DM.has
  rw [h.size, h'.size, h.meant, h'.meant]
end Go.Proofs.YtlikhmhomkiadaaGreatDoor

namespace Go.Proofs.YtlikhmhomkiadaaGreatDoor
set_option maxRecDepth 100000
open Go Go.RowKit

/-- The tag that a frame's Mine tells, as a value. -/
def tagV (l : List Nat) (r g p : Int) : Value := .agg #[.int .i64 (mfl l r g p 0), .int .i64 (mfl l r g p 1), .int .i64 (mfl l r g p 2), .int .i64 (mfl l r g p 3), .int .i64 (mfl l r g p 4)]

end Go.Proofs.YtlikhmhomkiadaaGreatDoor

namespace Go.Proofs.YtlikhmhomkiadaaGreatDoor
set_option maxRecDepth 100000
open Go Go.RowKit

/-- What Mine tells of a frame at its own place. -/
theorem seal_mine {a b c t e : Int} {s : Int} {body : List Nat} (h : sealE a b c t e body.length s = 0) : stM (sealL a b c t e body s) a b c = 1 ∧ tagV (sealL a b c t e body s) a b c = .agg #[.int .i64 a, .int .i64 b, .int .i64 c, .int .i64 t, .int .i64 e] ∧ mbl (sealL a b c t e body s) a b c = body ∧
    ((mfl (sealL a b c t e body s) a b c 0 : Nat) : Int) = a ∧ ((mfl (sealL a b c t e body s) a b c 1 : Nat) : Int) = b ∧ ((mfl (sealL a b c t e body s) a b c 2 : Nat) : Int) = c ∧ ((mfl (sealL a b c t e body s) a b c 3 : Nat) : Int) = t ∧ ((mfl (sealL a b c t e body s) a b c 4 : Nat) : Int) = e := by
  obtain ⟨hg, hb, q0, q1, q2, q3, q4⟩ := sealL_good h
  obtain ⟨e1, e2, e3⟩ := mine_yes hg ((mineB_iff hg).2 ⟨q0, q1, q2⟩)
  have f0 := e2 0
  have f1 := e2 1
  have f2 := e2 2
  have f3 := e2 3
  have f4 := e2 4
  refine ⟨e1, ?_, e3.trans hb, by rw [f0]; exact q0, by rw [f1]; exact q1, by rw [f2]; exact q2, by rw [f3]; exact q3, by rw [f4]; exact q4⟩
  unfold tagV
  rw [f0, f1, f2, f3, f4, q0, q1, q2, q3, q4]
end Go.Proofs.YtlikhmhomkiadaaGreatDoor
