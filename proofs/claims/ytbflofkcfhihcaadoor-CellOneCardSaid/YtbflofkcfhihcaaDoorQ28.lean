/-
  The contracts of the statements' reads and Great; a disk since a world.
  The contract of the statements' Great; a round of Do over a list of acts that came in.
  The contract of the frame statements' own first look at the chapter's examples: it answers true and writes nothing that was there.
  The contract of the document's own shifting of a bit.
  The contracts of the document's own checksum: bytes.
  The contract of the document's own Seal.
  The contracts of the ghost statements' wide and Great; what an act does to a disk, in plain words.
  The contract of the statements' own 'sealed': a frame in one sector or in two, and whether there is one.
  The contract of the ghost statements' Do.
  The contracts of the ghost statements' Do, for any act, and of put.
  The contracts of restBytes, meantBytes and isBad.
-/
import Derived.Test.YtbflofkcfhihcaaDoorQ01
import Derived.Test.YtbflofkcfhihcaaDoorQ02
import Derived.Test.YtbflofkcfhihcaaDoorQ12
import Derived.Test.YtbflofkcfhihcaaDoorQ15
import Derived.Test.YtbflofkcfhihcaaDoorQ16
import Derived.Test.YtbflofkcfhihcaaDoorQ19
import Derived.Test.YtbflofkcfhihcaaDoorQ21
import Derived.Test.YtbflofkcfhihcaaDoorQ27
import Derived.Deep.RegionHeld3
import Derived.Test.YtbflofkcfhihcaaDoorProg
import Derived.WalkKit
import Derived.WalkSpells
import Derived.BigQuiet
import Derived.Lib.Hide
import Derived.Laws.BitsAllLaws
namespace Go.Proofs.YtbflofkcfhihcaaDoor
set_option maxRecDepth 100000
open Go Go.RowKit

/-- The disk at d, all of whose blocks were made since w0; nothing that was there in w0 has been written. -/
structure DK (w0 w : World) (d : Nat) (F : Nat → Prop) (m : DM) : Prop where
  disk : PDisk w d F m
  low : ∀ k, F k → w0.heap.size ≤ k
  bel : Ext w0 w
theorem DK.ext {w0 w w' : World} {d : Nat} {F : Nat → Prop} {m : DM} (h : DK w0 w d F m) (k : Ext w w') : DK w0 w' d F m := ⟨h.disk.ext k, h.low, h.bel.trans k⟩
theorem DK.step {w0 w w' : World} {d : Nat} {F : Nat → Prop} {m m' : DM} (h : DK w0 w d F m) (hp : PDisk w' d (grow F w w') m') (hm : Mod F w w') : DK w0 w' d (grow F w w') m' :=
  ⟨hp, fun k hk => hk.elim (h.low k) fun h2 => Nat.le_trans h.bel.size h2.1, Below.mod h.bel hm h.bel.size h.low⟩
theorem DK.mod {w0 w w' : World} {d : Nat} {F G : Nat → Prop} {m : DM} (h : DK w0 w d F m) (hm : Mod G w w') (hG : ∀ k, F k → ¬ G k) (hl : ∀ k, G k → w0.heap.size ≤ k) : DK w0 w' d F m :=
  ⟨h.disk.mod hm hG, h.low, Below.mod h.bel hm h.bel.size hl⟩
theorem DK.fresh {w0 w : World} {d : Nat} {F : Nat → Prop} {m : DM} (h : DK w0 w d F m) {w' : World} {A : Option Addr} {n c : Nat} {e sz : Nat} {xs : List Value} (ho : w'.ownsRow w.heap.size e sz (.slice A n c) n xs) : Off F A := fun p hp hf => by
  subst hp
  have := (ho.lt p.block rfl).1
  have := h.disk.lt _ hf
  omega
/-- Values that came in lie in none of the disk's blocks. -/
theorem DK.vs {w0 w : World} {d : Nat} {F : Nat → Prop} {m : DM} (h : DK w0 w d F m) {A : Option Addr} {n c : Nat} {vs : List Value} (hv : Vs w0 w0.heap.size A n c vs) : 0 < n → Off F A := fun hn p hp hf => by
  obtain ⟨g, o, e, hg, _⟩ := hv.rd hn
  rw [e] at hp
  injection hp with hp
  subst hp
  have := h.low _ hf
  have hg' : g < w0.heap.size := hg
  have : w0.heap.size ≤ g := this
  omega
/-- What was there in w0 lies in none of the disk's blocks. -/
theorem DK.old {w0 w : World} {d : Nat} {F : Nat → Prop} {m : DM} (h : DK w0 w d F m) {A : Option Addr} (hA : ∀ p, A = some p → p.block < w0.heap.size) : Off F A := fun p hp hf => by
  have := hA p hp
  have := h.low _ hf
  omega
theorem Act5.sector (n : Int) (w : World) (B : Nat) (hn : (Lit.int .i64 n).wf = true) : ({ num := n } : Act5).Ok w B :=
  ⟨by show (0 : Nat) < 256; omega, rfl, hn, ⟨rfl, Nat.le_refl _, by show (0 : Nat) ≤ 9223372036854775807; omega, Rd.nil_, fun _ => rfl⟩, ⟨rfl, Nat.le_refl _, by show (0 : Nat) ≤ 9223372036854775807; omega, fun h => absurd h (by show ¬ (0 < 0); omega), fun _ => rfl⟩⟩
theorem rep_of (x : Nat) (hx : x < 256) : actB (x : Int) [] = List.replicate 64 x := by
  unfold actB
  rw [if_pos rfl]
  congr 1
  omega
theorem nat_wf (x : Nat) (hx : x < 256) : (Lit.int .i64 (x : Int)).wf = true := by
  have h1 : (IntKind.i64.min : Int) ≤ (x : Int) := by rw [show (IntKind.i64.min : Int) = -9223372036854775808 by decide]; omega
  have h2 : (x : Int) ≤ IntKind.i64.max := by rw [IntKind.max_i64]; omega
  show (decide (IntKind.i64.min ≤ (x : Int)) && decide ((x : Int) ≤ IntKind.i64.max)) = true
  rw [decide_eq_true h1, decide_eq_true h2]
  rfl
end Go.Proofs.YtbflofkcfhihcaaDoor

namespace Go.Proofs.YtbflofkcfhihcaaDoor
set_option maxRecDepth 100000
open Go Go.RowKit
/-- What Great answers. -/
def GreatE (n : Nat) (l : List Act5) (w : World) (e : Ending) (w' : World) : Prop := ∃ b : Bool, e = .returned (.bool b) ∧ w = w' ∧ (b = false → n ≤ 120 ∧ ∀ a ∈ l, a.bn ≤ 200 ∧ a.kn ≤ 100)

end Go.Proofs.YtbflofkcfhihcaaDoor

namespace Go.Proofs.YtbflofkcfhihcaaDoor
set_option maxRecDepth 100000
open Go Go.RowKit

/-- The chapter's frame: what is asked of it. -/
def exF : List Nat := sealL 1 4 47 258 3 [7] 2
theorem exF_len : exF.length = 128 := by decide +kernel
theorem exF_e : sealE 1 4 47 258 3 1 2 = 0 := by decide
theorem exF_head : exF.take 18 = [1, 0, 1, 4, 47, 2, 1, 0, 0, 0, 0, 3, 0, 0, 0, 0, 0, 7] := by decide +kernel
theorem exF_pad : (exF.drop 18).take 106 = List.replicate 106 0 := by decide +kernel
theorem exF_good : goodB exF = true := by decide +kernel
theorem exF_index : ofl exF 3 = 258 := by decide +kernel
theorem exF_body : obl exF = [7] := by decide +kernel

theorem u8_size (w : World) : (sizeOf (Tryd.prog.elem 22)).run Tryd.prog w = .ok 1 w := by
  have ht : Tryd.prog.elem 22 = 5 := by kernel_rfl
  obtain ⟨i0, hi, _, hz1, _⟩ := info_parts byte_info
  rw [ht]
  simp [Go.sizeOf, typeInfo, hi, hz1]
theorem cut_to (A : Option Addr) (n cp h : Nat) (hh : h ≤ cp) (w : World) : (Instr.slice 22 (.slice A n cp) none (some (.int .i64 (h : Int))) none).run Tryd.prog w = .ok (.slice A h cp) w := by
  have ht : Tryd.prog.elem 22 = 5 := by kernel_rfl
  rw [run_slice_h w 22 A n cp (by rw [ht]; exact Tryd.underlying22) .i64 (h : Int) (by omega) (by omega), u8_size]
  simp only [Result.andThen, sliced, Int.toNat_natCast, Nat.sub_zero]
  cases A with
  | none => simp
  | some a => simp [Addr.add]
theorem cut_mid (g o n cp l h : Nat) (hl : l < cp) (hlh : l ≤ h) (hh : h ≤ cp) (w : World) : (Instr.slice 22 (.slice (some ⟨g, o, none⟩) n cp) (some (.int .i64 (l : Int))) (some (.int .i64 (h : Int))) none).run Tryd.prog w = .ok (.slice (some ⟨g, o + l, none⟩) (h - l) (cp - l)) w := by
  have ht : Tryd.prog.elem 22 = 5 := by kernel_rfl
  rw [run_slice_lh w 22 (some ⟨g, o, none⟩) n cp (by rw [ht]; exact Tryd.underlying22) .i64 .i64 (l : Int) (h : Int) (by omega) (by omega) (by omega), u8_size]
  simp only [Result.andThen, sliced, Int.toNat_natCast, Nat.mul_one]
  rw [if_neg (by omega)]
  simp [Addr.add]

/-- A new row of zero bytes. -/
def zrow (k : Nat) : Obj := .cells (madeCells #[.int .u8 0] k) 5
theorem mk_zeros (k : Nat) (hk : k ≤ 1000) (w : World) : (Instr.makeSlice 22 (.int .i64 (k : Int)) (.int .i64 (k : Int))).run Tryd.prog w = .ok (.slice (some ⟨w.heap.size, 0, none⟩) k k) (w.alloc (zrow k)) := by
  obtain ⟨i0, hi, hz0, hz1, hz2⟩ := info_parts byte_info
  rw [run_make w 22 5 i0 (.int .u8 0) Tryd.underlying22 hi hz0 .i64 .i64 (k : Int) (k : Int) (by omega) (Int.le_refl _) (by rw [hz2]; omega) (by omega), hz1, Int.toNat_natCast, Nat.mul_one]
  rfl
theorem By.zrow (w : World) (k : Nat) (hk : k ≤ 1000) : By (w.alloc (zrow k)) (some ⟨w.heap.size, 0, none⟩) k k (List.replicate k 0) := by
  refine By.of_row (heap_alloc_new w (.cells (madeCells #[.int .u8 0] k) 5)) (fun j x hx => ?_) (by intro b hb; rw [(List.mem_replicate.1 hb).2]; omega) (by simp) (Nat.le_refl _) (by omega)
  have e : (madeCells #[Value.int .u8 0] k).toList = List.replicate k (Value.int .u8 0) := toList_madeCells_one _ _
  rw [← Array.getElem?_toList, e]
  rw [List.getElem?_replicate] at hx ⊢
  split at hx
  · rename_i hj
    injection hx with hx
    subst hx
    rw [if_pos hj]
    rfl
  · cases hx

theorem By.zrow2 (w : World) (o : Obj) (k : Nat) (hk : k ≤ 1000) : By ((w.alloc o).alloc (Go.Proofs.YtbflofkcfhihcaaDoor.zrow k)) (some ⟨w.heap.size + 1, 0, none⟩) k k (List.replicate k 0) := by
  rw [show w.heap.size + 1 = (w.alloc o).heap.size from by simp]
  exact By.zrow _ k hk

end Go.Proofs.YtbflofkcfhihcaaDoor

namespace Go.Proofs.YtbflofkcfhihcaaDoor
set_option maxRecDepth 100000
open Go Go.RowKit
end Go.Proofs.YtbflofkcfhihcaaDoor

namespace Go.Proofs.YtbflofkcfhihcaaDoor
set_option maxRecDepth 100000
open Go Go.RowKit
end Go.Proofs.YtbflofkcfhihcaaDoor

namespace Go.Proofs.YtbflofkcfhihcaaDoor
set_option maxRecDepth 100000
open Go Go.RowKit
/-- A slice value's length. -/
def lenOf : Value → Nat
  | .slice _ n _ => n
  | _ => 0
theorem zeros_snoc (l : List Nat) (k : Nat) : l ++ List.replicate k 0 ++ [0] = l ++ List.replicate (k + 1) 0 := by
  rw [List.append_assoc, ← List.replicate_succ']

theorem own_lower {w : World} {b b' n : Nat} {e : TypeId} {s : Nat} {v : Value} {xs : List Value} (h : w.ownsRow b e s v n xs) (hb : b' ≤ b) : w.ownsRow b' e s v n xs := by
  refine ⟨h.1, ?_⟩
  rcases h.2 with h0 | ⟨g, cap, cur, hv, hbg, h1⟩
  · exact .inl h0
  · exact .inr ⟨g, cap, cur, hv, Nat.le_trans hb hbg, h1⟩
end Go.Proofs.YtbflofkcfhihcaaDoor

namespace Go.Proofs.YtbflofkcfhihcaaDoor
set_option maxRecDepth 100000
open Go Go.RowKit

/-- The sectors of a frame, written one behind the other. -/
def DM.puts (m : DM) (s : Int) (L : List Nat) : Nat → DM
  | 0 => m
  | k + 1 => ((m.puts s L k).write (s + (k : Int)) ((L.drop (64 * k)).take 64)).2
/-- How many sectors a tag's place has. -/
def wideN (a b c d e : Int) : Nat := if mayB a b c d e = true then wid b else 0
theorem wideN_le (a b c d e : Int) : wideN a b c d e ≤ 2 := by
  unfold wideN
  split
  · exact wid_le b
  · omega
def Act6.sE (x : Act6) : Int := sealE x.ta x.tb x.tc x.td x.te x.bn (wideN x.ta x.tb x.tc x.td x.te : Nat)
def Act6.sL (x : Act6) : List Nat := sealL x.ta x.tb x.tc x.td x.te x.bl (wideN x.ta x.tb x.tc x.td x.te : Nat)
/-- What an act makes of a disk. -/
def DM.act6 (m : DM) (x : Act6) : DM :=
  if x.sl = true then (if x.sE = 0 then m.puts (firstS x.tb x.tc) x.sL (wideN x.ta x.tb x.tc x.td x.te) else m) else (m.act x.act.kind x.act.sec x.act.num x.act.bl x.act.kl).2
theorem puts_waits (m : DM) (s : Int) (L : List Nat) (k : Nat) : (m.puts s L k).waits.length ≤ m.waits.length + k := by
  induction k with
  | zero => exact Nat.le_refl _
  | succ k ih =>
    unfold DM.puts DM.write
    split
    · show (m.puts s L k).waits.length ≤ _; omega
    · split
      · show (m.puts s L k).waits.length ≤ _; omega
      · split
        · show (m.puts s L k).waits.length ≤ _; omega
        · simp; omega
theorem act6_waits (m : DM) (x : Act6) : (m.act6 x).waits.length ≤ m.waits.length + 2 := by
  unfold DM.act6
  split
  · split
    · have h1 := puts_waits m (firstS x.tb x.tc) x.sL (wideN x.ta x.tb x.tc x.td x.te)
      have h2 := wideN_le x.ta x.tb x.tc x.td x.te
      omega
    · omega
  · have := act_waits m x.act.kind x.act.sec x.act.num x.act.bl x.act.kl
    omega

/-- What Great answers of ghost's acts. -/
def Great6E (n : Nat) (l : List Act6) (w : World) (e : Ending) (w' : World) : Prop := ∃ b : Bool, e = .returned (.bool b) ∧ Ext w w' ∧ (b = false → n ≤ 60 ∧ ∀ a ∈ l, a.bn ≤ 100 ∧ a.act.bn ≤ 200 ∧ a.act.kn ≤ 100)
end Go.Proofs.YtbflofkcfhihcaaDoor

namespace Go.Proofs.YtbflofkcfhihcaaDoor
set_option maxRecDepth 100000
open Go Go.RowKit

theorem sealE_zero {a b c d e s : Int} {n : Nat} : sealE a b c d e n s = 0 ↔ roomN s ≠ 0 ∧ mayB a b c d e = true ∧ n ≤ roomN s := by
  constructor
  · intro h
    by_cases h1 : roomN s = 0 ∨ mayB a b c d e = false
    · rw [sealE_arg h1] at h; cases h
    · have h0 : roomN s ≠ 0 := fun hh => h1 (.inl hh)
      have hm : mayB a b c d e = true := by
        by_cases hm : mayB a b c d e = true
        · exact hm
        · exact absurd (.inr (by simpa using hm)) h1
      refine ⟨h0, hm, ?_⟩
      rcases Nat.lt_or_ge (roomN s) n with h2 | h2
      · rw [sealE_long h0 hm h2] at h; cases h
      · exact h2
  · rintro ⟨h0, hm, hn⟩
    exact sealE_yes h0 hm hn
theorem sealL_len {a b c d e s : Int} {body : List Nat} (h : sealE a b c d e body.length s = 0) : (sealL a b c d e body s).length = 64 * s.toNat ∧ 1 ≤ s ∧ s ≤ 2 := by
  obtain ⟨h0, hm, hn⟩ := sealE_zero.1 h
  obtain ⟨S, rfl⟩ := Int.eq_ofNat_of_zero_le (show 0 ≤ s by have := roomN_pos (s := s) (by omega); omega)
  have hfit := room_fits hn (by omega)
  rw [sealL_yes h, Int.toNat_natCast, frameL_len (by rw [pl_yes hm, tagBytes_len]) (by omega) (by omega)]
  omega
theorem sealL_good {a b c d e s : Int} {body : List Nat} (h : sealE a b c d e body.length s = 0) : goodB (sealL a b c d e body s) = true ∧ obl (sealL a b c d e body s) = body ∧ (ofl (sealL a b c d e body s) 0 : Int) = a ∧ (ofl (sealL a b c d e body s) 1 : Int) = b ∧ (ofl (sealL a b c d e body s) 2 : Int) = c ∧ (ofl (sealL a b c d e body s) 3 : Int) = d ∧ (ofl (sealL a b c d e body s) 4 : Int) = e := by
  obtain ⟨h0, hm, hn⟩ := sealE_zero.1 h
  obtain ⟨S, rfl⟩ := Int.eq_ofNat_of_zero_le (show 0 ≤ s by have := roomN_pos (s := s) (by omega); omega)
  obtain ⟨a, b, c, d, e, rfl, rfl, rfl, rfl, rfl⟩ := may_nat hm
  have hb88 := roomN_le (S : Int)
  rw [sealL_yes h, Int.toNat_natCast, pl_yes hm]
  simp only [Int.toNat_natCast]
  have hg := seal_good (S := S) hm hn (by omega)
  have hr := (PV_tag hm).2
  rw [ofl_yes hg, ofl_yes hg, ofl_yes hg, ofl_yes hg, ofl_yes hg, obl_yes hg, read_tag (tagBytes_len a b c d e), read_body (tagBytes_len a b c d e) (by omega), hr 0 (by omega), hr 1 (by omega), hr 2 (by omega), hr 3 (by omega), hr 4 (by omega)]
  exact ⟨hg, rfl, rfl, rfl, rfl, rfl, rfl⟩
theorem sealL_lt {a b c d e s : Int} {body : List Nat} (hb : ∀ x ∈ body, x < 256) : ∀ x ∈ sealL a b c d e body s, x < 256 := by
  by_cases h : sealE a b c d e body.length s = 0
  · rw [sealL_yes h]
    refine frameL_lt hb ?_
    rw [pl_yes (sealE_zero.1 h).2.1]
    exact tagBytes_lt _ _ _ _ _
  · rw [sealL_no h]
    simp

/-- One sector or two. -/
def sS (two : Bool) : Int := if two then 2 else 1

end Go.Proofs.YtbflofkcfhihcaaDoor

namespace Go.Proofs.YtbflofkcfhihcaaDoor
set_option maxRecDepth 100000
open Go Go.RowKit
/-- A piece of 64 bytes within a slice. -/
theorem By.piece {w : World} {g o n c : Nat} {l : List Nat} (h : By w (some ⟨g, o, none⟩) n c l) (k : Nat) (hk : k + 64 ≤ n) : By w (some ⟨g, o + k, none⟩) 64 (c - k) ((l.drop k).take 64) := by
  have hl := h.len
  have hc := h.cap
  refine ⟨by rw [List.length_take, List.length_drop]; omega, by omega, by have := h.most; omega, (h.rd.drop rfl k).take 64, fun e => by cases e⟩
/-- What a disk's calls have left behind. -/
structure Left (w0 w : World) (d : Nat) (F : Nat → Prop) (G : Nat → Prop) (v : World) (m : DM) : Prop where
  dk : DK w0 v d F m
  le : ∀ i, F i → G i
  mod : Mod G w v
theorem Left.step {w0 w v v' : World} {d : Nat} {F G : Nat → Prop} {m m' : DM} (h : Left w0 w d F G v m) (hG : ∀ i, v.heap.size ≤ i → G i) (hp : PDisk v' d (grow F v v') m') (hm : Mod F v v') : Left w0 w d (grow F v v') G v' m' :=
  ⟨h.dk.step hp hm, fun i hi => hi.elim (h.le i) fun hh => hG i hh.1, h.mod.trans hm fun i hi => .inl (h.le i hi)⟩
theorem Left.ext {w0 w v v' : World} {d : Nat} {F G : Nat → Prop} {m : DM} (h : Left w0 w d F G v m) (hx : Ext v v') : Left w0 w d F G v' m := ⟨h.dk.ext hx, h.le, h.mod.ext hx⟩

theorem keep_box {u V w' : World} {g : Nat} {x0 x1 x2 x3 x4 x5 x6 x7 x8 x9 x10 x11 : Value} {t : TypeId} (k : Hid (Ext u w')) (hV : u = V.drew) (h : Hid (V.heap[g]? = some (.cells #[x0, x1, x2, x3, x4, x5, x6, x7, x8, x9, x10, x11] t (0, 0)))) :
    w'.cell? ⟨g, 1, none⟩ = some x1 ∧ w'.cell? ⟨g, 2, none⟩ = some x2 ∧ w'.cell? ⟨g, 3, none⟩ = some x3 ∧ w'.cell? ⟨g, 4, none⟩ = some x4 ∧ w'.cell? ⟨g, 5, none⟩ = some x5 ∧ w'.cell? ⟨g, 6, none⟩ = some x6 := by
  subst hV
  have h2 := (k.out.block g (Array.getElem?_eq_some_iff.1 h.out).1).trans h.out
  exact ⟨cell_of_row w' g 1 _ _ _ h2, cell_of_row w' g 2 _ _ _ h2, cell_of_row w' g 3 _ _ _ h2, cell_of_row w' g 4 _ _ _ h2, cell_of_row w' g 5 _ _ _ h2, cell_of_row w' g 6 _ _ _ h2⟩
theorem keep_two2 {u w' : World} {g : Nat} {x0 x1 x2 x3 x4 x5 x6 x7 x8 x9 x10 x11 : Value} {t : TypeId} {G : Nat → Prop} (k : Hid (Mod G u w')) (hg : Hid (¬ G g)) (h : Hid (u.heap[g]? = some (.cells #[x0, x1, x2, x3, x4, x5, x6, x7, x8, x9, x10, x11] t (0, 0)))) :
    w'.cell? ⟨g, 2, none⟩ = some x2 ∧ w'.cell? ⟨g, 3, none⟩ = some x3 := by
  have h2 := heap_mod h.out k.out hg.out
  exact ⟨cell_of_row w' g 2 _ _ _ h2, cell_of_row w' g 3 _ _ _ h2⟩
theorem firstS_in (g p : Int) : -1 ≤ firstS g p ∧ firstS g p ≤ 156 := by
  have h1 := beg_le g
  have h2 := wid_le g
  by_cases hh : 0 ≤ p ∧ p < plc g
  · rw [firstS_yes hh]
    have hr := plc_some (r := g) (by omega)
    rcases region_cases hr with rfl | rfl | rfl | rfl | rfl <;> simp [beg, plc, wid] at hh ⊢ <;> omega
  · rw [firstS_no hh]; omega
theorem off_piece {F G : Nat → Prop} {g o o' : Nat} (hF : ∀ i, F i → G i) (h : Off G (some ⟨g, o, none⟩)) : Off F (some ⟨g, o', none⟩) := fun p hp hh => by
  injection hp with hp
  subst hp
  exact h _ rfl (hF _ hh)
end Go.Proofs.YtbflofkcfhihcaaDoor

namespace Go.Proofs.YtbflofkcfhihcaaDoor
set_option maxRecDepth 100000
open Go Go.RowKit
/-- A disk that is up, and has power for some writes. -/
structure Ready (m : DM) (j : Nat) : Prop where
  up : m.up = true
  size : m.size = 156
  power : m.power = -1 ∨ (j : Int) ≤ m.power
theorem Ready.less {m : DM} {j k : Nat} (h : Ready m j) (hk : k ≤ j) : Ready m k := ⟨h.up, h.size, h.power.imp id fun hp => by omega⟩
theorem Ready.write {m : DM} {j : Nat} (h : Ready m (j + 1)) {s : Int} (h0 : 0 ≤ s) (h1 : s < 156) {b : List Nat} (hb : b.length = 64) : m.write s b = (0, { m with power := lessP m.power, waits := m.waits ++ [(s.toNat, b)] }) ∧ Ready (m.write s b).2 j := by
  have hh : m.has s = true := DM.has_iff.2 ⟨h0, by rw [h.size]; exact h1⟩
  have hp0 : m.power ≠ 0 := by rcases h.power with h | h <;> omega
  have e : m.write s b = (0, { m with power := lessP m.power, waits := m.waits ++ [(s.toNat, b)] }) := by
    unfold DM.write
    rw [if_neg (by rw [h.up]; simp), if_neg (by rw [hh, hb]; simp), if_neg hp0]
  refine ⟨e, ?_⟩
  rw [e]
  refine ⟨h.up, h.size, ?_⟩
  show lessP m.power = -1 ∨ _ ≤ lessP m.power
  unfold lessP
  rcases h.power with hp | hp
  · left; rw [hp]; decide
  · right; rw [if_pos (by omega)]; omega
theorem Ready.flush {m : DM} {j : Nat} (h : Ready m (j + 1)) : m.flush = (0, { ({ m with power := lessP m.power } : DM).comes m.waits with waits := [] }) := by
  have hp0 : m.power ≠ 0 := by rcases h.power with h | h <;> omega
  unfold DM.flush
  rw [if_neg (by rw [h.up]; simp), if_neg hp0]
theorem Ready.puts {m : DM} {S : Int} {L : List Nat} {W j : Nat} (h : Ready m (j + W)) (h0 : 0 ≤ S) (h1 : S + W ≤ 156) (hl : L.length = 64 * W) : ∀ k, k ≤ W → Ready (m.puts S L k) (j + W - k) := by
  intro k
  induction k with
  | zero => intro _; exact h
  | succ k ih =>
    intro hk
    have hr := ih (by omega)
    rw [show j + W - k = (j + W - (k + 1)) + 1 by omega] at hr
    exact (hr.write (s := S + (k : Int)) (by omega) (by omega) (b := (L.drop (64 * k)).take 64) (by rw [List.length_take, List.length_drop]; omega)).2

/-- What put leaves: the frame's sectors, written and flushed. -/
def DM.put (m : DM) (s : Int) (L : List Nat) (W : Nat) : DM := (m.puts s L W).flush.2

theorem first_wid {g p : Int} (hh : 0 ≤ p ∧ p < plc g) : 0 ≤ firstS g p ∧ firstS g p + wid g ≤ 156 := by
  rw [firstS_yes hh]
  have hr := plc_some (r := g) (by omega)
  rcases region_cases hr with rfl | rfl | rfl | rfl | rfl <;> simp [beg, plc, wid] at hh ⊢ <;> omega
theorem keep_tag {u V w' : World} {g : Nat} {x0 x1 x2 x3 x4 : Value} {t : TypeId} (k : Hid (Ext u w')) (hV : u = V.drew) (h : Hid (V.heap[g]? = some (.cells #[x0, x1, x2, x3, x4] t (0, 0)))) :
    w'.cell? ⟨g, 0, none⟩ = some x0 ∧ w'.cell? ⟨g, 1, none⟩ = some x1 ∧ w'.cell? ⟨g, 2, none⟩ = some x2 ∧ w'.cell? ⟨g, 3, none⟩ = some x3 ∧ w'.cell? ⟨g, 4, none⟩ = some x4 := by
  subst hV
  have h2 := (k.out.block g (Array.getElem?_eq_some_iff.1 h.out).1).trans h.out
  exact ⟨cell_of_row w' g 0 _ _ _ h2, cell_of_row w' g 1 _ _ _ h2, cell_of_row w' g 2 _ _ _ h2, cell_of_row w' g 3 _ _ _ h2, cell_of_row w' g 4 _ _ _ h2⟩
theorem keep_tag2 {u w' : World} {g : Nat} {x0 x1 x2 x3 x4 : Value} {t : TypeId} {G : Nat → Prop} (k : Hid (Mod G u w')) (hg : Hid (¬ G g)) (h : Hid (u.heap[g]? = some (.cells #[x0, x1, x2, x3, x4] t (0, 0)))) :
    w'.cell? ⟨g, 1, none⟩ = some x1 ∧ w'.cell? ⟨g, 2, none⟩ = some x2 := by
  have h2 := heap_mod h.out k.out hg.out
  exact ⟨cell_of_row w' g 1 _ _ _ h2, cell_of_row w' g 2 _ _ _ h2⟩
end Go.Proofs.YtbflofkcfhihcaaDoor

namespace Go.Proofs.YtbflofkcfhihcaaDoor
set_option maxRecDepth 100000
open Go Go.RowKit

theorem at_new {w : World} {d : Nat} {F : Nat → Prop} {m : DM} (h : PDisk w d F m) (s : Int) : (∀ b ∈ (m.at_ s).1, b < 256) ∧ (m.at_ s).1.length ≤ 64 := by
  obtain ⟨g, pv, hp, _, _⟩ := h
  exact ⟨sect_lt (at_sect hp.ok s), sect_len (at_sect hp.ok s)⟩
theorem means_new {w : World} {d : Nat} {F : Nat → Prop} {m : DM} (h : PDisk w d F m) (s : Int) : (∀ b ∈ (m.means s).1, b < 256) ∧ (m.means s).1.length ≤ 64 := by
  obtain ⟨g, pv, hp, _, _⟩ := h
  exact ⟨sect_lt (means_sect hp.ok s), sect_len (means_sect hp.ok s)⟩

/-- What the observers gather, sector by sector: a row of the call's own. -/
structure Gath (w0 w : World) (v : Value) (l : List Nat) (k : Nat) : Prop where
  own : w.ownsRow w0.heap.size 5 1 v l.length (vb l)
  lt : ∀ b ∈ l, b < 256
  few : l.length ≤ 64 * k
  ext : Ext w0 w
theorem Gath.start (w : World) : Gath w w (.slice none 0 0) [] 0 := ⟨World.ownsRow_nil _ _ _ _, fun b hb => (by cases hb), by simp, Ext.refl w⟩
theorem Gath.more {w0 w w' : World} {v : Value} {l : List Nat} {k : Nat} (h : Gath w0 w v l k) (hx : Ext w w') : Gath w0 w' v l k := ⟨own_ext h.own hx, h.lt, h.few, h.ext.trans hx⟩
theorem Gath.form {w0 w : World} {v : Value} {l : List Nat} {k : Nat} (h : Gath w0 w v l k) : ∃ A c, v = .slice A l.length c ∧ By w A l.length c l := by
  obtain ⟨A, c, rfl, _, _⟩ := own_form h.own
  exact ⟨A, c, rfl, Bs.of_own h.own h.lt⟩
theorem Gath.app {w0 w w' : World} {v v' : Value} {l l2 : List Nat} {k : Nat} (h : Gath w0 w v l k) (hg : w.grownBy w' v.ownBlock) (ho : w'.ownsRow w0.heap.size 5 1 v' (l.length + l2.length) (vb l ++ vb l2)) (hl : ∀ b ∈ l2, b < 256) (hn : l2.length ≤ 64) : Gath w0 w' v' (l ++ l2) (k + 1) := by
  refine ⟨by rw [List.length_append, vb_append]; exact ho, fun b hb => (List.mem_append.1 hb).elim (h.lt b) (hl b), ?_, Below.grown h.ext hg (Ext.size h.ext) (fun g hg' => (h.own.lt g hg').1)⟩
  have := h.few
  rw [List.length_append]
  omega

/-- A hurt place is detectable: one of its sectors is lost, or its bytes are bad there. -/
def DM.badB (m : DM) (r g p : Int) : Bool := m.lostB (firstS g p) (wid g) || decide (stM (m.restL (firstS g p) (wid g)) r g p = 2)
end Go.Proofs.YtbflofkcfhihcaaDoor
