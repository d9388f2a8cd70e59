/-
  The contracts of the ghost statements' wide and Great; what an act does to a disk, in plain words.
  The contract of the statements' own 'sealed': a frame in one sector or in two, and whether there is one.
  The contract of the ghost statements' Do.
-/
import Derived.Test.YtlikhmhomkiadaaGreatDoorQ19
import Derived.Test.YtlikhmhomkiadaaGreatDoorQ23
import Derived.Test.YtlikhmhomkiadaaGreatDoorQ24
import Derived.Deep.RegionHeld3
namespace Go.Proofs.YtlikhmhomkiadaaGreatDoor
set_option maxRecDepth 100000
open Go Go.RowKit

/-- The sectors of a frame, written one behind the other. -/
def DM.puts (m : DM) (s : Int) (L : List Nat) : Nat → DM
  | 0 => m
  | k + 1 => ((m.puts s L k).write (s + (k : Int)) ((L.drop (64 * k)).take 64)).2
/-- How many sectors a tag's place has. -/
def wideN (a b c d e : Int) : Nat := if mayB a b c d e = true then wid b else 0
theorem wideN_le (a b c d e : Int) : wideN a b c d e ≤ 2 := by
  unfold wideN
  split
  · exact wid_le b
  · omega
def Act6.sE (x : Act6) : Int := sealE x.ta x.tb x.tc x.td x.te x.bn (wideN x.ta x.tb x.tc x.td x.te : Nat)
def Act6.sL (x : Act6) : List Nat := sealL x.ta x.tb x.tc x.td x.te x.bl (wideN x.ta x.tb x.tc x.td x.te : Nat)
/-- What an act makes of a disk. -/
def DM.act6 (m : DM) (x : Act6) : DM :=
  if x.sl = true then (if x.sE = 0 then m.puts (firstS x.tb x.tc) x.sL (wideN x.ta x.tb x.tc x.td x.te) else m) else (m.act x.act.kind x.act.sec x.act.num x.act.bl x.act.kl).2
theorem puts_waits (m : DM) (s : Int) (L : List Nat) (k : Nat) : (m.puts s L k).waits.length ≤ m.waits.length + k := by
  induction k with
  | zero => exact Nat.le_refl _
  | succ k ih =>
    unfold DM.puts DM.write
    split
    · show (m.puts s L k).waits.length ≤ _; omega
    · split
      · show (m.puts s L k).waits.length ≤ _; omega
      · split
        · show (m.puts s L k).waits.length ≤ _; omega
        · simp; omega
theorem act6_waits (m : DM) (x : Act6) : (m.act6 x).waits.length ≤ m.waits.length + 2 := by
  unfold DM.act6
  split
  · split
    · have h1 := puts_waits m (firstS x.tb x.tc) x.sL (wideN x.ta x.tb x.tc x.td x.te)
      have h2 := wideN_le x.ta x.tb x.tc x.td x.te
      omega
    · omega
  · have := act_waits m x.act.kind x.act.sec x.act.num x.act.bl x.act.kl
    omega

set_option maxHeartbeats 800000 in
theorem wide6_any (a b c d e : Int) (w : World) (hL : LaidT w) :
    Calls Tryz.prog 40 #[.agg #[.int .i64 a, .int .i64 b, .int .i64 c, .int .i64 d, .int .i64 e]] w fun r w' => r = .returned (.int .i64 (wideN a b c d e : Nat)) ∧ Ext w w' := by
  have hE := (Ext.refl w).alloc (.cells #[.int .i64 a, .int .i64 b, .int .i64 c, .int .i64 d, .int .i64 e] 33)
  have HT := Lib.hid (heap_alloc_new w (.cells #[.int .i64 a, .int .i64 b, .int .i64 c, .int .i64 d, .int .i64 e] 33))
  have HE := Lib.hid hE
  have HL := Lib.hid hL
  clear hE hL
  obtain ⟨W, hW⟩ : ∃ W, wideN a b c d e = W := ⟨_, rfl⟩
  rw [hW]
  by_cases hm : mayB a b c d e = true
  · have HW : Hid (wid b = W) := Lib.hid (by rw [← hW]; unfold wideN; rw [if_pos hm])
    clear hW
    go_enter Tryz.func40, Tryz.ntmps40
    go_wp2_with fail
    refine (may_any _ _ _ _ _ _ (HL.out.ext HE.out)).mono ?_
    rw [hm]
    rintro r w1 ⟨rfl, hx⟩
    have ht := (hx.block _ (Array.getElem?_eq_some_iff.1 HT.out).1).trans HT.out
    have HE := Lib.hid (HE.out.trans hx)
    obtain ⟨⟨i0, i1, i2, i3, i4⟩, _⟩ := five_cells ht
    clear hx ht hm
    go_wp2_with fail
    refine (wide_any _ _ (HL.out.ext HE.out)).mono ?_
    rw [HW.out]
    rintro r w2 ⟨rfl, hx⟩
    have HE := Lib.hid (HE.out.trans hx)
    clear hx
    go_wp2_with fail
    go_ret
    exact ⟨rfl, HE.out⟩
  · have hm' : mayB a b c d e = false := by simpa using hm
    have HW : Hid (W = 0) := Lib.hid (by rw [← hW]; unfold wideN; rw [if_neg hm])
    clear hW hm
    go_enter Tryz.func40, Tryz.ntmps40
    go_wp2_with fail
    refine (may_any _ _ _ _ _ _ (HL.out.ext HE.out)).mono ?_
    rw [hm']
    rintro r w1 ⟨rfl, hx⟩
    have HE := Lib.hid (HE.out.trans hx)
    clear hx hm'
    go_wp2_with fail
    go_ret
    exact ⟨by rw [HW.out]; rfl, HE.out⟩

/-- What Great answers of ghost's acts. -/
def Great6E (n : Nat) (l : List Act6) (w : World) (e : Ending) (w' : World) : Prop := ∃ b : Bool, e = .returned (.bool b) ∧ Ext w w' ∧ (b = false → n ≤ 60 ∧ ∀ a ∈ l, a.bn ≤ 100 ∧ a.act.bn ≤ 200 ∧ a.act.kn ≤ 100)
theorem acts_one6 (w : World) (a : Act5) (h : a.Ok w w.heap.size) : Acts (w.alloc (.cells #[.int .u8 (a.kind : Int), .int .i64 a.sec, .int .i64 a.num, .slice a.bA a.bn a.bc, .slice a.kA a.kn a.kc] 37)) (w.alloc (.cells #[.int .u8 (a.kind : Int), .int .i64 a.sec, .int .i64 a.num, .slice a.bA a.bn a.bc, .slice a.kA a.kn a.kc] 37)).heap.size (some ⟨w.heap.size, 0, none⟩) 1 1 [a] := by
  refine ⟨rfl, Nat.le_refl _, by omega, fun b hb => ?_, fun _ => ⟨w.heap.size, 0, rfl, by simp, fun j b hb k v hv => ?_⟩, fun h => by cases h⟩
  · obtain rfl := List.mem_singleton.1 hb
    exact (h.below ((Ext.refl w).alloc _)).more ((Ext.refl w).alloc _).size
  · match j, hb with
    | 0, hb =>
      injection hb with hb
      subst hb
      rw [World.cell?_alloc_new]
      rw [show 0 + (0 * 5 + k) = k by omega]
      exact (List.getElem?_toArray ..).trans hv

set_option maxRecDepth 100000 in
set_option maxHeartbeats 1600000 in
theorem great6_of {w : World} {B : Nat} (hBw : B ≤ w.heap.size) (A : Option Addr) (n c : Nat) (l : List Act6) (h : Acts6 w B A n c l) :
    Calls Tryz.prog 6 #[.slice A n c] w (Great6E n l w) := by
  have HA := Lib.hid h
  have hn := Nat.zero_le n
  have HBW := Lib.hid hBw
  clear h hBw
  go_enter Tryz.func6, Tryz.ntmps6
  by_cases hn120 : 60 < n
  · go_wp2_with fail
    go_ret
    exact ⟨true, rfl, Ext.refl _, fun h => by cases h⟩
  go_wp2_with fail
  go_loopw [3] (fun i wr => ∃ k : Nat, k ≤ n ∧ i = .int .i64 k ∧ Hid (Ext w wr) ∧ Hid (∀ a ∈ l.take k, a.bn ≤ 100 ∧ a.act.bn ≤ 200 ∧ a.act.kn ≤ 100)) (fun i _ => n - (intOf i).toNat)
  case atStart => exact ⟨0, Nat.zero_le _, rfl, Lib.hid (Ext.refl _), Lib.hid fun a ha => by simp at ha⟩
  case round =>
    obtain ⟨k, hkn, rfl, HX, HT⟩ := hrel
    by_cases hlt : k < n
    · obtain ⟨g, o, a, rfl, hg, ha, hok, hc⟩ := HA.out.at_ hlt
      have HAL := Lib.hid ha
      have HOK : Hid (a.act.Ok wr wr.heap.size) := Lib.hid ((hok.act.below (HX.out.mono HBW.out)).more (Nat.le_trans HBW.out HX.out.size))
      obtain ⟨h0, h1, h2, h3, h4, h5, h6, h7, h8, h9, h10, h11⟩ := hc.below (HX.out.mono HBW.out) hg
      by_cases hb : 100 < a.bn
      · clear ha hok hc
        go_wp2_with fail
        go_ret
        exact ⟨true, rfl, HX.out, fun h => by cases h⟩
      · clear ha hok hc h0 h1 h2 h3 h4 h5
        go_wp2_with fail
        refine (great_of _ 1 1 [a.act] (acts_one6 wr a.act HOK.out)).mono ?_
        rintro e w2 ⟨b, rfl, rfl, hgr⟩
        have HX2 := Lib.hid (HX.out.alloc (.cells #[.int .u8 (a.act.kind : Int), .int .i64 a.act.sec, .int .i64 a.act.num, .slice a.act.bA a.act.bn a.act.bc, .slice a.act.kA a.act.kn a.act.kc] 37))
        have HGR := Lib.hid hgr
        clear hgr
        cases b with
        | true =>
          go_wp2_with fail
          go_ret
          exact ⟨true, rfl, HX2.out, fun h => by cases h⟩
        | false =>
          go_wp2_with fail
          go_roundw
          case rel => exact ⟨k + 1, by omega, by go_num, HX2, Lib.hid fun b hb' => by
            rw [List.take_add_one, HAL.out] at hb'
            rcases List.mem_append.1 hb' with h | h
            · exact HT.out b h
            · simp only [Option.toList_some, List.mem_singleton] at h
              subst h
              have := (HGR.out (by trivial)).2 b.act (List.mem_singleton.2 rfl)
              exact ⟨by omega, this.1, this.2⟩⟩
          case measure => simp [intOf]; omega
    · go_wp2_with fail
      go_ret
      refine ⟨false, rfl, HX.out, fun _ => ⟨by omega, fun a ha => HT.out a ?_⟩⟩
      rw [List.take_of_length_le (by have := HA.out.len; omega)]
      exact ha
end Go.Proofs.YtlikhmhomkiadaaGreatDoor

namespace Go.Proofs.YtlikhmhomkiadaaGreatDoor
set_option maxRecDepth 100000
open Go Go.RowKit

theorem sealE_zero {a b c d e s : Int} {n : Nat} : sealE a b c d e n s = 0 ↔ roomN s ≠ 0 ∧ mayB a b c d e = true ∧ n ≤ roomN s := by
  constructor
  · intro h
    by_cases h1 : roomN s = 0 ∨ mayB a b c d e = false
    · rw [sealE_arg h1] at h; cases h
    · have h0 : roomN s ≠ 0 := fun hh => h1 (.inl hh)
      have hm : mayB a b c d e = true := by
        by_cases hm : mayB a b c d e = true
        · exact hm
        · exact absurd (.inr (by simpa using hm)) h1
      refine ⟨h0, hm, ?_⟩
      rcases Nat.lt_or_ge (roomN s) n with h2 | h2
      · rw [sealE_long h0 hm h2] at h; cases h
      · exact h2
  · rintro ⟨h0, hm, hn⟩
    exact sealE_yes h0 hm hn
theorem sealL_len {a b c d e s : Int} {body : List Nat} (h : sealE a b c d e body.length s = 0) : (sealL a b c d e body s).length = 64 * s.toNat ∧ 1 ≤ s ∧ s ≤ 2 := by
  obtain ⟨h0, hm, hn⟩ := sealE_zero.1 h
  obtain ⟨S, rfl⟩ := Int.eq_ofNat_of_zero_le (show 0 ≤ s by have := roomN_pos (s := s) (by omega); omega)
  have hfit := room_fits hn (by omega)
  rw [sealL_yes h, Int.toNat_natCast, frameL_len (by rw [pl_yes hm, tagBytes_len]) (by omega) (by omega)]
  omega
theorem sealL_good {a b c d e s : Int} {body : List Nat} (h : sealE a b c d e body.length s = 0) : goodB (sealL a b c d e body s) = true ∧ obl (sealL a b c d e body s) = body ∧ (ofl (sealL a b c d e body s) 0 : Int) = a ∧ (ofl (sealL a b c d e body s) 1 : Int) = b ∧ (ofl (sealL a b c d e body s) 2 : Int) = c ∧ (ofl (sealL a b c d e body s) 3 : Int) = d ∧ (ofl (sealL a b c d e body s) 4 : Int) = e := by
  obtain ⟨h0, hm, hn⟩ := sealE_zero.1 h
  obtain ⟨S, rfl⟩ := Int.eq_ofNat_of_zero_le (show 0 ≤ s by have := roomN_pos (s := s) (by omega); omega)
  obtain ⟨a, b, c, d, e, rfl, rfl, rfl, rfl, rfl⟩ := may_nat hm
  have hb88 := roomN_le (S : Int)
  rw [sealL_yes h, Int.toNat_natCast, pl_yes hm]
  simp only [Int.toNat_natCast]
  have hg := seal_good (S := S) hm hn (by omega)
  have hr := (PV_tag hm).2
  rw [ofl_yes hg, ofl_yes hg, ofl_yes hg, ofl_yes hg, ofl_yes hg, obl_yes hg, read_tag (tagBytes_len a b c d e), read_body (tagBytes_len a b c d e) (by omega), hr 0 (by omega), hr 1 (by omega), hr 2 (by omega), hr 3 (by omega), hr 4 (by omega)]
  exact ⟨hg, rfl, rfl, rfl, rfl, rfl, rfl⟩
theorem sealL_lt {a b c d e s : Int} {body : List Nat} (hb : ∀ x ∈ body, x < 256) : ∀ x ∈ sealL a b c d e body s, x < 256 := by
  by_cases h : sealE a b c d e body.length s = 0
  · rw [sealL_yes h]
    refine frameL_lt hb ?_
    rw [pl_yes (sealE_zero.1 h).2.1]
    exact tagBytes_lt _ _ _ _ _
  · rw [sealL_no h]
    simp

/-- One sector or two. -/
def sS (two : Bool) : Int := if two then 2 else 1

end Go.Proofs.YtlikhmhomkiadaaGreatDoor

namespace Go.Proofs.YtlikhmhomkiadaaGreatDoor
set_option maxRecDepth 100000
open Go Go.RowKit

/-- A box that holds an act. -/
def box6 (x : Act6) : Obj := .cells #[.bool x.sl, .int .i64 x.ta, .int .i64 x.tb, .int .i64 x.tc, .int .i64 x.td, .int .i64 x.te, .slice x.bA x.bn x.bc, .int .u8 (x.act.kind : Int), .int .i64 x.act.sec, .int .i64 x.act.num, .slice x.act.bA x.act.bn x.act.bc, .slice x.act.kA x.act.kn x.act.kc] 39
theorem box6_cells {w : World} {g : Nat} {x : Act6} (h : w.heap[g]? = some (box6 x)) : w.cell? ⟨g, 0, none⟩ = some (.bool x.sl) ∧ w.cell? ⟨g, 1, none⟩ = some (.int .i64 x.ta) ∧ w.cell? ⟨g, 2, none⟩ = some (.int .i64 x.tb) ∧ w.cell? ⟨g, 3, none⟩ = some (.int .i64 x.tc) ∧ w.cell? ⟨g, 4, none⟩ = some (.int .i64 x.td) ∧ w.cell? ⟨g, 5, none⟩ = some (.int .i64 x.te) ∧
    w.cell? ⟨g, 6, none⟩ = some (.slice x.bA x.bn x.bc) ∧ w.cell? ⟨g, 7, none⟩ = some (.int .u8 (x.act.kind : Int)) ∧ w.cell? ⟨g, 8, none⟩ = some (.int .i64 x.act.sec) ∧ w.cell? ⟨g, 9, none⟩ = some (.int .i64 x.act.num) ∧ w.cell? ⟨g, 10, none⟩ = some (.slice x.act.bA x.act.bn x.act.bc) ∧ w.cell? ⟨g, 11, none⟩ = some (.slice x.act.kA x.act.kn x.act.kc) :=
  ⟨cell_of_row w g 0 _ _ _ h, cell_of_row w g 1 _ _ _ h, cell_of_row w g 2 _ _ _ h, cell_of_row w g 3 _ _ _ h, cell_of_row w g 4 _ _ _ h, cell_of_row w g 5 _ _ _ h, cell_of_row w g 6 _ _ _ h, cell_of_row w g 7 _ _ _ h, cell_of_row w g 8 _ _ _ h, cell_of_row w g 9 _ _ _ h, cell_of_row w g 10 _ _ _ h, cell_of_row w g 11 _ _ _ h⟩
/-- A piece of 64 bytes within a slice. -/
theorem By.piece {w : World} {g o n c : Nat} {l : List Nat} (h : By w (some ⟨g, o, none⟩) n c l) (k : Nat) (hk : k + 64 ≤ n) : By w (some ⟨g, o + k, none⟩) 64 (c - k) ((l.drop k).take 64) := by
  have hl := h.len
  have hc := h.cap
  refine ⟨by rw [List.length_take, List.length_drop]; omega, by omega, by have := h.most; omega, (h.rd.drop rfl k).take 64, fun e => by cases e⟩
/-- What a disk's calls have left behind. -/
structure Left (w0 w : World) (d : Nat) (F : Nat → Prop) (G : Nat → Prop) (v : World) (m : DM) : Prop where
  dk : DK w0 v d F m
  le : ∀ i, F i → G i
  mod : Mod G w v
theorem Left.step {w0 w v v' : World} {d : Nat} {F G : Nat → Prop} {m m' : DM} (h : Left w0 w d F G v m) (hG : ∀ i, v.heap.size ≤ i → G i) (hp : PDisk v' d (grow F v v') m') (hm : Mod F v v') : Left w0 w d (grow F v v') G v' m' :=
  ⟨h.dk.step hp hm, fun i hi => hi.elim (h.le i) fun hh => hG i hh.1, h.mod.trans hm fun i hi => .inl (h.le i hi)⟩
theorem Left.ext {w0 w v v' : World} {d : Nat} {F G : Nat → Prop} {m : DM} (h : Left w0 w d F G v m) (hx : Ext v v') : Left w0 w d F G v' m := ⟨h.dk.ext hx, h.le, h.mod.ext hx⟩

theorem keep_box {u V w' : World} {g : Nat} {x0 x1 x2 x3 x4 x5 x6 x7 x8 x9 x10 x11 : Value} {t : TypeId} (k : Hid (Ext u w')) (hV : u = V.drew) (h : Hid (V.heap[g]? = some (.cells #[x0, x1, x2, x3, x4, x5, x6, x7, x8, x9, x10, x11] t (0, 0)))) :
    w'.cell? ⟨g, 1, none⟩ = some x1 ∧ w'.cell? ⟨g, 2, none⟩ = some x2 ∧ w'.cell? ⟨g, 3, none⟩ = some x3 ∧ w'.cell? ⟨g, 4, none⟩ = some x4 ∧ w'.cell? ⟨g, 5, none⟩ = some x5 ∧ w'.cell? ⟨g, 6, none⟩ = some x6 := by
  subst hV
  have h2 := (k.out.block g (Array.getElem?_eq_some_iff.1 h.out).1).trans h.out
  exact ⟨cell_of_row w' g 1 _ _ _ h2, cell_of_row w' g 2 _ _ _ h2, cell_of_row w' g 3 _ _ _ h2, cell_of_row w' g 4 _ _ _ h2, cell_of_row w' g 5 _ _ _ h2, cell_of_row w' g 6 _ _ _ h2⟩
theorem keep_two2 {u w' : World} {g : Nat} {x0 x1 x2 x3 x4 x5 x6 x7 x8 x9 x10 x11 : Value} {t : TypeId} {G : Nat → Prop} (k : Hid (Mod G u w')) (hg : Hid (¬ G g)) (h : Hid (u.heap[g]? = some (.cells #[x0, x1, x2, x3, x4, x5, x6, x7, x8, x9, x10, x11] t (0, 0)))) :
    w'.cell? ⟨g, 2, none⟩ = some x2 ∧ w'.cell? ⟨g, 3, none⟩ = some x3 := by
  have h2 := heap_mod h.out k.out hg.out
  exact ⟨cell_of_row w' g 2 _ _ _ h2, cell_of_row w' g 3 _ _ _ h2⟩
theorem firstS_in (g p : Int) : -1 ≤ firstS g p ∧ firstS g p ≤ 156 := by
  have h1 := beg_le g
  have h2 := wid_le g
  by_cases hh : 0 ≤ p ∧ p < plc g
  · rw [firstS_yes hh]
    have hr := plc_some (r := g) (by omega)
    rcases region_cases hr with rfl | rfl | rfl | rfl | rfl <;> simp [beg, plc, wid] at hh ⊢ <;> omega
  · rw [firstS_no hh]; omega
theorem off_piece {F G : Nat → Prop} {g o o' : Nat} (hF : ∀ i, F i → G i) (h : Off G (some ⟨g, o, none⟩)) : Off F (some ⟨g, o', none⟩) := fun p hp hh => by
  injection hp with hp
  subst hp
  exact h _ rfl (hF _ hh)
set_option maxRecDepth 100000 in
set_option maxHeartbeats 2400000 in
theorem do6_yes {w0 w : World} {d : Nat} {F : Nat → Prop} {m : DM} (h : DK w0 w d F m) (hL : LaidT w0) (x : Act6) (hx : x.Ok w0 w0.heap.size) (hs : x.sl = true) (hfew : m.waits.length ≤ 1000) :
    Calls Tryz.prog 9 #[.pointer (some ⟨d, 0, none⟩), .agg #[.bool x.sl, .int .i64 x.ta, .int .i64 x.tb, .int .i64 x.tc, .int .i64 x.td, .int .i64 x.te, .slice x.bA x.bn x.bc, .int .u8 (x.act.kind : Int), .int .i64 x.act.sec, .int .i64 x.act.num, .slice x.act.bA x.act.bn x.act.bc, .slice x.act.kA x.act.kn x.act.kc]] w fun e w' => (∃ v, e = .returned v) ∧ ∃ F', DK w0 w' d F' (m.act6 x) := by
  have hB := heap_alloc_new w (box6 x)
  have hE := (Ext.refl w).alloc (box6 x)
  have hlt : w.heap.size < (w.alloc (box6 x)).heap.size := by simp
  have HB := Lib.hid hB
  have HE := Lib.hid hE
  have H := Lib.hid h
  have HL := Lib.hid hL
  have HBY : Hid (By w x.bA x.bn x.bc x.bl) := Lib.hid ((hx.body.below h.bel).more h.bel.size)
  obtain ⟨c0, c1, c2, c3, c4, c5, c6, c7, c8, c9, c10, c11⟩ := box6_cells hB
  obtain ⟨W, hW⟩ : ∃ W, wideN x.ta x.tb x.tc x.td x.te = W := ⟨_, rfl⟩
  have hW2 := wideN_le x.ta x.tb x.tc x.td x.te
  rw [hW] at hW2
  obtain ⟨E, hEE⟩ : ∃ E, x.sE = E := ⟨_, rfl⟩
  obtain ⟨L, hLL⟩ : ∃ L, x.sL = L := ⟨_, rfl⟩
  obtain ⟨S, hS⟩ : ∃ S, firstS x.tb x.tc = S := ⟨_, rfl⟩
  have hSb : -1 ≤ S ∧ S ≤ 156 := by rw [← hS]; exact firstS_in x.tb x.tc
  have HACT : Hid (m.act6 x = if E = 0 then m.puts S L W else m) := Lib.hid (by unfold DM.act6; rw [if_pos hs, hEE, hS, hLL, hW])
  have hwd : ∀ V, Ext w0 V → Calls Tryz.prog 40 #[.agg #[.int .i64 x.ta, .int .i64 x.tb, .int .i64 x.tc, .int .i64 x.td, .int .i64 x.te]] V fun r w' => r = .returned (.int .i64 (W : Nat)) ∧ Ext V w' := fun V hV => by
    have := wide6_any x.ta x.tb x.tc x.td x.te V (hL.ext hV)
    rwa [hW] at this
  have hsl : ∀ V, Ext w V → Calls Tryz.prog 39 #[.agg #[.int .i64 x.ta, .int .i64 x.tb, .int .i64 x.tc, .int .i64 x.td, .int .i64 x.te], .slice x.bA x.bn x.bc, .int .i64 (W : Nat)] V fun r w' => ∃ A' c', r = .returned (.tuple #[.slice A' L.length c', .int .i64 E]) ∧ By w' A' L.length c' L ∧ Ext V w' ∧ w'.ownsRow V.heap.size 5 1 (.slice A' L.length c') L.length (vb L) := fun V hV => by
    have := rseal_own x.ta x.tb x.tc x.td x.te (W : Nat) x.bA x.bn x.bc x.bl V (HBY.out.ext hV)
    unfold Act6.sE Act6.sL at *
    rw [hW] at hEE hLL
    rwa [hEE, hLL] at this
  have hlen : E = 0 → L.length = 64 * W ∧ 1 ≤ W := fun h0 => by
    have hbl : x.bl.length = x.bn := hx.body.len
    unfold Act6.sE at hEE
    unfold Act6.sL at hLL
    rw [hW] at hEE hLL
    rw [← hLL]
    have := (sealL_len (a := x.ta) (b := x.tb) (c := x.tc) (d := x.td) (e := x.te) (body := x.bl) (s := (W : Nat)) (by rw [hbl, hEE]; exact h0))
    rw [this.1, Int.toNat_natCast]
    exact ⟨rfl, by omega⟩
  have hfst : ∀ V, Ext w0 V → Calls Tryz.prog 42 #[.int .i64 x.tb, .int .i64 x.tc] V fun r w' => r = .returned (.int .i64 S) ∧ Ext V w' := fun V hV => by
    have := first_any x.tb x.tc V (hL.ext hV)
    rwa [hS] at this
  have HWD := Lib.hid hwd
  have HSL := Lib.hid hsl
  have HLEN := Lib.hid hlen
  rw [hs] at c0 ⊢
  have hBX : box6 x = .cells #[.bool true, .int .i64 x.ta, .int .i64 x.tb, .int .i64 x.tc, .int .i64 x.td, .int .i64 x.te, .slice x.bA x.bn x.bc, .int .u8 (x.act.kind : Int), .int .i64 x.act.sec, .int .i64 x.act.num, .slice x.act.bA x.act.bn x.act.bc, .slice x.act.kA x.act.kn x.act.kc] 39 := by unfold box6; rw [hs]
  rw [hBX] at hE c0 c1 c2 c3 c4 c5 c6 c7 c8 c9 c10 c11
  have HEX : Hid (Ext w (w.alloc (.cells #[.bool true, .int .i64 x.ta, .int .i64 x.tb, .int .i64 x.tc, .int .i64 x.td, .int .i64 x.te, .slice x.bA x.bn x.bc, .int .u8 (x.act.kind : Int), .int .i64 x.act.sec, .int .i64 x.act.num, .slice x.act.bA x.act.bn x.act.bc, .slice x.act.kA x.act.kn x.act.kc] 39)).drew) := Lib.hid hE.drew
  have HS := Lib.hid hfst
  have HEX0 := Lib.hid (h.bel.trans HEX.out)
  rw [hBX] at HB hlt
  clear h hL hx hEE hLL hS hW hwd hsl hlen hfst HBY hB hE HE
  go_enter Tryz.func9, Tryz.ntmps9
  go_wp2_with fail
  have hk1 : Hid (Ext (w.alloc (.cells #[.bool true, .int .i64 x.ta, .int .i64 x.tb, .int .i64 x.tc, .int .i64 x.td, .int .i64 x.te, .slice x.bA x.bn x.bc, .int .u8 (x.act.kind : Int), .int .i64 x.act.sec, .int .i64 x.act.num, .slice x.act.bA x.act.bn x.act.bc, .slice x.act.kA x.act.kn x.act.kc] 39)).drew (w.alloc (.cells #[.bool true, .int .i64 x.ta, .int .i64 x.tb, .int .i64 x.tc, .int .i64 x.td, .int .i64 x.te, .slice x.bA x.bn x.bc, .int .u8 (x.act.kind : Int), .int .i64 x.act.sec, .int .i64 x.act.num, .slice x.act.bA x.act.bn x.act.bc, .slice x.act.kA x.act.kn x.act.kc] 39)).drew) := Lib.hid (Ext.refl _)
  go_region_held3 (fun w' => w'.cell? ⟨w.heap.size, 1, none⟩ = some (.int .i64 x.ta) ∧ w'.cell? ⟨w.heap.size, 2, none⟩ = some (.int .i64 x.tb) ∧ w'.cell? ⟨w.heap.size, 3, none⟩ = some (.int .i64 x.tc) ∧ w'.cell? ⟨w.heap.size, 4, none⟩ = some (.int .i64 x.td) ∧ w'.cell? ⟨w.heap.size, 5, none⟩ = some (.int .i64 x.te) ∧ w'.cell? ⟨w.heap.size, 6, none⟩ = some (.slice x.bA x.bn x.bc))
    (first | exact keep_box (by assumption) rfl HB)
    (first
      | (go_at_call 40; ((with_reducible refine (HWD.out _ HEX0.out).mono ?_); rintro e w1 ⟨rfl, hx⟩; have HK1 := Lib.hid hx; have HE1 : Hid (Ext w w1) := Lib.hid (HEX.out.trans hx); clear hx))
      | (go_at_call 39; ((with_reducible refine (HSL.out _ HE1.out).mono ?_); rintro e w2 ⟨A, c, rfl, hb, hx, ho⟩; have HK2 := Lib.hid (HK1.out.trans hx); have HE2 : Hid (Ext w w2) := Lib.hid (HE1.out.trans hx); have HBL := Lib.hid hb; have HOW := Lib.hid ho; clear hx hb ho)))
  have HB2 : Hid (w2.heap[w.heap.size]? = _) := Lib.hid ((HK2.out.block _ hlt).trans HB.out)
  have H2 := Lib.hid (H.out.ext HE2.out)
  have hsz1 := HE1.out.size
  have hsz2 : w.heap.size < w2.heap.size := (Array.getElem?_eq_some_iff.1 HB2.out).1
  clear HB HWD HSL hk1 HK1 HK2 HEX HEX0 hlt c0 c1 c2 c3 c4 c5 c6 c7 c8 c9 c10 c11
  by_cases h0 : E = 0
  · have HACT : Hid (m.act6 x = m.puts S L W) := Lib.hid (by rw [HACT.out, if_pos h0])
    subst h0
    obtain ⟨hl, hw1⟩ := HLEN.out rfl
    obtain ⟨g, o, z, rfl, hg2, _⟩ := HBL.out.rd.at_ (k := 0) (by omega)
    have hg1 : w1.heap.size ≤ g := (HOW.out.lt g rfl).1
    have hoff : Off (fun i => F i ∨ w2.heap.size ≤ i) (some ⟨g, o, none⟩) := fun p hp hh => by
      injection hp with hp
      subst hp
      rcases hh with hh | hh
      · exact absurd (H.out.disk.lt _ hh) (by show ¬ g < _; omega)
      · exact absurd hh (by show ¬ _ ≤ g; omega)
    have hGB : ¬ (fun i => F i ∨ w2.heap.size ≤ i) w.heap.size := fun hh => hh.elim (fun h1 => absurd (H.out.disk.lt _ h1) (by omega)) (fun h1 => absurd h1 (by omega))
    have HOFF := Lib.hid hoff
    have HGB := Lib.hid hGB
    have hcap := HBL.out.cap
    have hdiv : (64 * (W : Int)).tdiv 64 = (W : Int) := by rw [Int.tdiv_eq_ediv_of_nonneg (by omega)]; omega
    have hdiv2 : (64 * (W : Int)) / 64 = (W : Int) := by omega
    rw [hl] at HBL HOW hcap
    rw [hl]
    have HBL := Lib.hid HBL.out
    clear hoff hGB HOW hl
    go_wp2_with fail
    go_loopw [6] (fun i wr => ∃ (k : Nat) (F' : Nat → Prop), k ≤ W ∧ i = .int .i64 k ∧ Hid (Left w0 w2 d F' (fun i => F i ∨ w2.heap.size ≤ i) wr (m.puts S L k))) (fun i _ => W - (intOf i).toNat)
    case atStart => exact ⟨0, F, Nat.zero_le _, rfl, Lib.hid ⟨H2.out, fun i hi => .inl hi, Mod.refl _ _⟩⟩
    case round =>
      obtain ⟨k, F', hk, rfl, HLF⟩ := hrel
      by_cases hlt : k < W
      · have hkk : 64 * k + 64 ≤ 64 * W := by omega
        have hcut : ∀ V : World, (Instr.slice 34 (.slice (some ⟨g, o, none⟩) (64 * W) c) (some (.int .i64 (64 * (k : Int)))) (some (.int .i64 (64 * (k : Int) + 64))) none).run Tryz.prog V = .ok (.slice (some ⟨g, o + 64 * k, none⟩) 64 (c - 64 * k)) V := fun V => by
          have := cut_mid g o (64 * W) c (64 * k) (64 * k + 64) (by omega) (by omega) (by omega) V
          rw [show 64 * k + 64 - 64 * k = 64 by omega] at this
          rw [show (64 * (k : Int)) = ((64 * k : Nat) : Int) by omega, show (((64 * k : Nat) : Int) + 64) = ((64 * k + 64 : Nat) : Int) by omega]
          exact this
        have q1 : IntKind.i64.wrap (64 * (k : Int)) = 64 * (k : Int) := IntWalk.i64_in _ (by omega)
        have q2 : IntKind.i64.wrap (64 * (k : Int) + 64) = 64 * (k : Int) + 64 := IntWalk.i64_in _ (by omega)
        have q3 : IntKind.i64.wrap (S + (k : Int)) = S + (k : Int) := IntWalk.i64_in _ (by omega)
        have HDa := Lib.hid (HLF.out.ext (Ext.refl wr).drew)
        have HMa := Lib.hid HDa.out.mod
        have HWa := Lib.hid HDa.out.dk.bel
        have HFW : Hid ((m.puts S L k).waits.length ≤ 1000000) := Lib.hid (by have := puts_waits m S L k; omega)
        have hnext : m.puts S L (k + 1) = ((m.puts S L k).write (S + (k : Int)) ((L.drop (64 * k)).take 64)).2 := rfl
        have HNX := Lib.hid hnext
        have HKK := Lib.hid hkk
        clear hnext
        go_wp2_with fail
        go_region_held3 (fun w' => w'.cell? ⟨w.heap.size, 2, none⟩ = some (.int .i64 x.tb) ∧ w'.cell? ⟨w.heap.size, 3, none⟩ = some (.int .i64 x.tc))
          (first | exact keep_two2 (by assumption) HGB HB2)
          (first
            | (go_at_call 42; ((with_reducible refine (HS.out _ HWa.out).mono ?_); rintro e wv ⟨rfl, hx⟩; have HDb := Lib.hid (HDa.out.ext hx); have HMb := Lib.hid HDb.out.mod; clear hx))
            | (go_at_call 41; ((with_reducible refine (write_pd HDb.out.dk.disk (S + (k : Int)) (some ⟨g, o + 64 * k, none⟩) 64 (c - 64 * k) _ ((HBL.out.mod HMb.out HOFF.out).piece (64 * k) HKK.out) (off_piece HDb.out.le HOFF.out) HFW.out).mono ?_); unfold Outc; rintro e wz ⟨rfl, hp, hm⟩; have HDc := Lib.hid (HDb.out.step (fun i hi => .inr (Nat.le_trans HMb.out.size hi)) hp hm); have HMc := Lib.hid HDc.out.mod; clear hp hm)))
        go_wp2_with fail
        go_roundw
        case rel => exact ⟨k + 1, _, by omega, by go_num, by rw [HNX.out]; exact HDc⟩
        case measure => simp [intOf]; omega
      · obtain rfl : k = W := by omega
        go_wp2_with fail
        go_end0
        exact ⟨⟨_, rfl⟩, _, by rw [HACT.out]; exact HLF.out.dk⟩
  · have hne : (E == 0) = false := by simpa using h0
    have HACT : Hid (m.act6 x = m) := Lib.hid (by rw [HACT.out, if_neg h0])
    clear HLEN h0
    go_wp2_with fail
    go_loopw [6] (fun i wr => i = .int .i64 0 ∧ wr = w2) (fun _ _ => 0)
    case atStart => exact ⟨rfl, rfl⟩
    case round =>
      obtain ⟨rfl, rfl⟩ := hrel
      go_wp2_with fail
      go_end0
      exact ⟨⟨_, rfl⟩, _, by rw [HACT.out]; exact H2.out⟩
end Go.Proofs.YtlikhmhomkiadaaGreatDoor
