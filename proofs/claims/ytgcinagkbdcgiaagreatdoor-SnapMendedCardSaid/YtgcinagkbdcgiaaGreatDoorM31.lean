/-
  A shelf on a disk that was made since the law began, some of whose chunks are hurt: its calls, beside blocks of the law's own.
-/
import Derived.Test.YtgcinagkbdcgiaaGreatDoorM00
import Derived.Test.YtgcinagkbdcgiaaGreatDoorM12
import Derived.Test.YtgcinagkbdcgiaaGreatDoorM13
import Derived.Test.YtgcinagkbdcgiaaGreatDoorM14
import Derived.Test.YtgcinagkbdcgiaaGreatDoorM15
import Derived.Test.YtgcinagkbdcgiaaGreatDoorM18
import Derived.Test.YtgcinagkbdcgiaaGreatDoorM20
import Derived.Test.YtgcinagkbdcgiaaGreatDoorM22
import Derived.Test.YtgcinagkbdcgiaaGreatDoorM23
import Derived.Test.YtgcinagkbdcgiaaGreatDoorM25
import Derived.Test.YtgcinagkbdcgiaaGreatDoorM29
import Derived.Test.YtgcinagkbdcgiaaGreatDoorM30
import Derived.Deep.DeepCutAuto
namespace Go.Proofs.YtgcinagkbdcgiaaGreatDoor
set_option maxRecDepth 100000
section
open Go Go.RowKit
def FY (F : Nat → Prop) (g : Nat) : Nat → Prop := fun k => F k ∨ k = g
section
variable {w0 w w' : World} {d g : Nat} {r inc : Int} {F : Nat → Prop} {m m' : DM} {s s' : ShM} {b : List Nat} {S : Nat → Bool}
theorem LdY.insKp (h : LdY w0 w d g r inc F m s) (k : InsY w g d r inc F m' s' w') : ∃ F', LdY w0 w' d g r inc F' m' s' ∧ Kept (FY F g) (FY F' g) w w' := by
  obtain ⟨F', hd, sub, hng, hm, hs⟩ := k
  refine ⟨F', ⟨⟨hd, fun k hk => ?_, Below.mod h.dk.bel hm h.dk.bel.size fun i hi => hi.elim (h.dk.low i) fun e => by rw [e]; exact h.low⟩, h.low, hng, hs⟩, hm, fun k hk => ?_⟩
  · by_cases hlt : k < w.heap.size
    · exact h.dk.low k (sub k hlt hk)
    · have := h.dk.bel.size; omega
  · by_cases hlt : k < w.heap.size
    · exact .inl (hk.imp (sub k hlt) id)
    · exact .inr (by omega)
theorem LdY.stepKp (h : LdY w0 w d g r inc F m s) (k : Step d F w m' w') : ∃ F', LdY w0 w' d g r inc F' m' s ∧ Kept (FY F g) (FY F' g) w w' := by
  refine ⟨grow F w w', ⟨h.dk.step k.1 k.2, h.low, grow_not h.off h.sh.lt, h.sh.mod k.2 h.off⟩, k.2.mono fun _ hi => .inl hi, fun i hi => ?_⟩
  rcases hi with hi | hi
  · exact hi.elim (fun h1 => .inl (.inl h1)) fun h1 => .inr h1.1
  · exact .inl (.inr hi)
theorem LdY.away (h : LdY w0 w d g r inc F m s) {A : Option Addr} (hA : ∀ p, A = some p → w.heap.size ≤ p.block) : Off (FY F g) A := fun p hp hf => by
  have := hA p hp
  rcases hf with hf | hf
  · have := h.dk.disk.lt _ hf; omega
  · have := h.sh.lt; omega
theorem Off.kept {F F' : Nat → Prop} {A : Option Addr} (h : Off F A) (k : Kept F F' w w') (hlt : ∀ p, A = some p → p.block < w.heap.size) : Off F' A := fun p hp hf => (k.new _ hf).elim (h p hp) fun h1 => by have := hlt p hp; omega
theorem ldy_chunkS (h : LdY w0 w d g r inc F m s) (hL : LaidY w0) (hd : CD m (-1)) (hh : MendY m r s b S) (hr : 0 ≤ r ∧ r ≤ 6) (k : Nat) (hk : k < s.ct) :
    Calls Tryz.prog 50 #[.pointer (some ⟨g, 0, none⟩), .int .i64 (k : Int)] w fun e w' => ∃ A N c, e = .returned (.tuple #[.slice A N c, .int .i64 (if S k = true then 130 else 0)]) ∧ (S k = false → By w' A N c (chunkL b k)) ∧ (∀ p, A = some p → w.heap.size ≤ p.block) ∧ Ext w w' := by
  obtain ⟨h8, h9, _⟩ := hh.eight
  obtain ⟨t1, t2⟩ := hh.told hd hr hk
  refine (ychunk_of h.sh h.dk.disk (h.laid0 hL) h8 h9 (k : Int) (by rw [hd.b.waits]; simp)).mono ?_
  rintro e w' ⟨A, N, c, he, hb, hA, hx⟩
  have hE : m.chunkE r s (k : Int) = if S k = true then 130 else 0 := by
    unfold DM.chunkE
    rw [if_neg (by omega), if_neg (by rw [hd.up]; simp), Int.toNat_natCast, t1]
    cases S k <;> rfl
  rw [hE] at he
  refine ⟨A, N, c, he, fun hS => ?_, hA, hx⟩
  have hO : m.chunkO r s (k : Int) = chunkL b k := by
    unfold DM.chunkO
    rw [hE, if_pos (by rw [hS]; rfl), Int.toNat_natCast]
    exact t2 hS
  rw [hO] at hb
  exact hb
theorem ldy_flipS (h : LdY w0 w d g r inc F m s) (hd : CD m (-1)) (hh : MendY m r s b S) (hr : 0 ≤ r ∧ r ≤ 6) (k : Nat) (hk : k < s.ct) (hS : S k = false) (j : Nat) (hj : j ≤ 1) (bit : Nat) (hbit : bit ≤ 100000) :
    Calls Tryz.prog 51 #[.pointer (some ⟨d, 0, none⟩), .int .i64 ((sC (8 * s.ar + k) + j : Nat) : Int), .int .i64 (bit : Int)] w fun e w' => e = .returned (.int .i64 0) ∧ ∃ F' m', LdY w0 w' d g r inc F' m' s ∧ CD m' (-1) ∧ MendY m' r s b (fun i => S i || decide (i = k)) ∧ Kept (FY F g) (FY F' g) w w' := by
  obtain ⟨m', e, c', hm'⟩ := hh.flip hd hr hk hS j hj bit
  refine (flip_pd h.dk.disk _ (bit : Int) (by omega)).mono ?_
  rintro e' w' ho
  rw [e] at ho
  obtain ⟨he, hst⟩ := Outc.step ho
  obtain ⟨F', hl, hk2⟩ := h.stepKp hst
  exact ⟨he, F', m', hl, c', hm', hk2⟩
theorem ldy_mendS (h : LdY w0 w d g r inc F m s) (hL : LaidY w0) (hd : CD m (-1)) (hh : MendY m r s b S) (hr : 0 ≤ r ∧ r ≤ 6) (hc : 1 ≤ inc ∧ inc ≤ 1099511627776) (k : Nat) (hk : k < s.ct) (A : Option Addr) (n c : Nat) (hb : By w A n c (chunkL b k)) (hoff : 0 < n → Off F A) :
    Calls Tryz.prog 32 #[.pointer (some ⟨g, 0, none⟩), .int .i64 (k : Int), .slice A n c] w fun e w' => e = .returned (.int .i64 (if S k = true then 0 else 2)) ∧ ∃ F' m', LdY w0 w' d g r inc F' m' s ∧ CD m' (-1) ∧ MendY m' r s b (fun i => S i && !decide (i = k)) ∧ Kept (FY F g) (FY F' g) w w' := by
  have hq := ymend_ofN h.sh h.dk.disk h.off (h.laid hL) (.inr hh.ok) hr hc (k : Int) A n c (chunkL b k) hb hoff (by rw [hd.b.waits]; simp)
  cases hS : S k with
  | true =>
    obtain ⟨m', e, c', hm'⟩ := hh.mend (inc := inc) hd hr hc hk hS
    rw [e] at hq
    refine hq.mono ?_
    rintro e' w' ⟨he, hi⟩
    obtain ⟨F', hl, hk2⟩ := h.insKp hi
    exact ⟨he, F', m', hl, c', hm', hk2⟩
  | false =>
    rw [hh.stays hd hr hk hS] at hq
    refine hq.mono ?_
    rintro e' w' ⟨he, hi⟩
    obtain ⟨F', hl, hk2⟩ := h.insKp hi
    refine ⟨he, F', m, hl, hd, hh.congr fun i _ => ?_, hk2⟩
    by_cases hik : i = k
    · subst hik; rw [hS]; rfl
    · simp [hik]
end
def row8 (f : Nat → Value) : Array Value := ((List.range 8).map f).toArray
theorem row8_at (f : Nat → Value) {k : Nat} (h : k < 8) : (row8 f)[k]? = some (f k) := by
  unfold row8
  rw [List.getElem?_toArray, List.getElem?_map, List.getElem?_range h]
  rfl
theorem row8_set (f : Nat → Value) (k : Nat) (v : Value) : (row8 f).setIfInBounds k v = row8 fun j => if j = k then v else f j := by
  unfold row8
  rw [List.setIfInBounds_toArray]
  congr 1
  apply List.ext_getElem?
  intro j
  rw [List.getElem?_set, List.getElem?_map, List.getElem?_map, List.length_map, List.length_range]
  by_cases hj : j < 8
  · rw [List.getElem?_range hj]
    by_cases hk : k = j
    · subst hk
      simp [hj]
    · rw [if_neg hk]
      have hk' : ¬ j = k := fun e => hk e.symm
      simp [hk']
  · rw [List.getElem?_eq_none (by simp; omega)]
    split <;> simp <;> omega
theorem Keep.at8 {w : World} {F : Nat → Prop} {b : Nat} {f : Nat → Value} {t : TypeId} (h : Keep w F b (.cells (row8 f) t (0, 0))) {k : Nat} (hk : k < 8) : w.cell? ⟨b, k, none⟩ = some (f k) :=
  (cell_of_row w b k _ _ _ h.row).trans (row8_at f hk)
theorem Keep.free8 {w : World} {F : Nat → Prop} {b : Nat} {f : Nat → Value} {t : TypeId} (h : Keep w F b (.cells (row8 f) t (0, 0))) (k : Nat) : w.frozen? ⟨b, k, none⟩ = false := frozen_of_row w b k _ _ h.row
end
section
open Go Go.RowKit
def lastY (L : List Lst) (j : Nat) : List Nat := if j = 0 then [] else ((lsOf L)[j - 1]?).getD []
theorem lastY_succ {L : List Lst} {j : Nat} {a : Lst} (h : L[j]? = some a) : lastY L (j + 1) = a.l := by
  unfold lastY
  rw [if_neg (by omega), Nat.add_sub_cancel, lsOf_atY h]
  rfl
end
section
open Go Go.RowKit
section
variable {w0 w w' : World} {d g : Nat} {r inc : Int} {F : Nat → Prop} {m m' : DM} {s s' : ShM} {b : List Nat} {S : Nat → Bool}
theorem LdY.of_openK (h : DK w0 w d F m) (k : OpnY w d g r inc F m' s' w') : ∃ F', LdY w0 w' d g r inc F' m' s' ∧ Mod F w w' := by
  obtain ⟨F', hl⟩ := LdY.of_open h k
  obtain ⟨_, _, _, _, _, hm, _⟩ := k
  exact ⟨F', hl, hm⟩
theorem ldy_openK {v : Nat} (h : DK w0 w d F m) (hL : LaidY w0) (hd : CD m (-1)) (hr : 0 ≤ r ∧ r ≤ 6) (hc : 1 ≤ inc ∧ inc ≤ 1099511627776) (hu : SomeU r m 2 v (ManY v s)) (hh : HeldY m r s b) (hz : v = 0 ↔ s.ix = 0) :
    Calls Tryz.prog 27 #[.pointer (some ⟨d, 0, none⟩), .int .i64 r, .int .i64 inc] w fun e w' => ∃ g F' m', e = .returned (.tuple #[.pointer (some ⟨g, 0, none⟩), .int .i64 0]) ∧ LdY w0 w' d g r inc F' m' s ∧ InY m' (-1) r s v b ∧ Mod F w w' ∧ (NInv m → NInv m') := by
  obtain ⟨h1, h2, m', h3, h4⟩ := hu.openY hd hh hz
  have hw := hd.b.waits
  have hsz := hd.b.size
  refine (yopen_yes h.disk (hL.ext h.bel) r inc (by rw [hsz]; omega) (inI_iff.2 hc) (knownY hr hsz) (by rw [hw]; simp) h1 (by rw [h3])).mono ?_
  rintro e w' ⟨g, he, ho⟩
  rw [h3] at ho
  have ho2 : OpnY w d g r inc F m' s w' := by
    have : ldS3 (m.loadV r 2) (m.loadB r 2) (m.loadE r 2) = s := h2
    rw [this] at ho
    exact ho
  obtain ⟨F', hl, hm⟩ := LdY.of_openK h ho2
  exact ⟨g, F', m', he, hl, h4, hm, fun hn => by have := hn.heal r; rw [h3] at this; exact this⟩
theorem ldy_openS {v : Nat} (h : DK w0 w d F m) (hL : LaidY w0) (hd : CD m (-1)) (hr : 0 ≤ r ∧ r ≤ 6) (hc : 1 ≤ inc ∧ inc ≤ 1099511627776) (hu : SomeU r m 2 v (ManY v s)) (hh : MendY m r s b S) (hz : v = 0 ↔ s.ix = 0) :
    Calls Tryz.prog 27 #[.pointer (some ⟨d, 0, none⟩), .int .i64 r, .int .i64 inc] w fun e w' => ∃ g F' m', e = .returned (.tuple #[.pointer (some ⟨g, 0, none⟩), .int .i64 0]) ∧ LdY w0 w' d g r inc F' m' s ∧ CD m' (-1) ∧ MendY m' r s b S ∧ Mod F w w' := by
  obtain ⟨h1, h2, m', h3, h4, h5⟩ := hu.openS hd hh hz
  have hw := hd.b.waits
  have hsz := hd.b.size
  refine (yopen_yes h.disk (hL.ext h.bel) r inc (by rw [hsz]; omega) (inI_iff.2 hc) (knownY hr hsz) (by rw [hw]; simp) h1 (by rw [h3])).mono ?_
  rintro e w' ⟨g, he, ho⟩
  rw [h3] at ho
  have ho2 : OpnY w d g r inc F m' s w' := by
    have : ldS3 (m.loadV r 2) (m.loadB r 2) (m.loadE r 2) = s := h2
    rw [this] at ho
    exact ho
  obtain ⟨F', hl, hm⟩ := LdY.of_openK h ho2
  exact ⟨g, F', m', he, hl, h4, h5, hm⟩
theorem ldy_installN {v : Nat} (h : LdY w0 w d g r inc F m s) (hL : LaidY w0) (hi : InY m (-1) r s v b) (hr : 0 ≤ r ∧ r ≤ 6) (hc : 1 ≤ inc ∧ inc ≤ 1099511627776) (hv : v < 1099511627776) (i : Nat) (hix : s.ix < i ∧ i ≤ 1099511627752) (A : Option Addr) (n c : Nat) (bs : List Nat) (hb : By w A n c bs) (hn : n ≤ 640) :
    Calls Tryz.prog 30 #[.pointer (some ⟨g, 0, none⟩), .int .i64 (i : Int), .slice A n c] w fun e w' => e = .returned (.int .i64 0) ∧ ∃ F' m', LdY w0 w' d g r inc F' m' (nextY s i (chunkN bs.length)) ∧ InY m' (-1) r (nextY s i (chunkN bs.length)) (v + 1) bs ∧ (NInv m → NInv m') := by
  have hw := hi.cd.b.waits
  have hsz := hi.cd.b.size
  have hbl : bs.length ≤ 640 := by rw [hb.len]; exact hn
  obtain ⟨m', hm⟩ := hi.install (by omega) hr hc hv hix (c := bs) hbl hb.rd.lt
  rcases hm with ⟨h1, q, _, hq, h2⟩ | ⟨h0, _⟩
  · obtain rfl := hq rfl
    have hok := nextY_ok hi.held.kind hix hbl
    refine (yinstall_yes h.sh h.dk.disk h.off (h.laid hL) hi.held.kind hr hc hsz i hix A n c bs hb hn (by rw [hw]; simp)).mono ?_
    rintro e w' ⟨he, hins⟩
    have hni : NInv m → NInv m' := fun hn => by
      have := hn.putY (r := r) (inc := inc) hok (l := splitL bs) fun c hc => (split_each hb.rd.lt c hc).2
      rw [h1] at this
      exact this
    rw [h1] at he hins
    dsimp only at hins
    rw [if_pos rfl] at hins
    obtain ⟨F', hl⟩ := h.ins hins
    exact ⟨he, F', m', hl, h2, hni⟩
  · exact absurd rfl h0
end
set_option maxHeartbeats 1600000 in
theorem yinstalled_one {w0 w : World} {d : Nat} {F : Nat → Prop} (h : DK w0 w d F (DM.new 156)) (hL : LaidY w0) (gl : Nat) (A : Option Addr) (n c : Nat) (l : List Nat) (t : TypeId) (hrow : w.heap[gl]? = some (.cells #[.slice A n c] t (0, 0))) (hoff : ¬ F gl) (hb : By w0 A n c l) (hn : n ≤ 640) :
    Calls Tryz.prog 38 #[.pointer (some ⟨d, 0, none⟩), .slice (some ⟨gl, 0, none⟩) 1 1] w fun e w' => ∃ g F' m', e = .returned (.pointer (some ⟨g, 0, none⟩)) ∧ LdY w0 w' d g 2 1 F' m' (nextY {} 8 (chunkN l.length)) ∧ InY m' (-1) 2 (nextY {} 8 (chunkN l.length)) 1 l := by
  have hi := InY.new 2
  have hop := ldy_openK h hL hi.cd (r := 2) (inc := 1) (by omega) (by omega) (two_someU hi.two) hi.held hi.zero
  have HOP := Lib.hid hop
  have HL := Lib.hid hL
  have HB := Lib.hid hb
  have HR := Lib.hid hrow
  have HF := Lib.hid hoff
  clear h hL hb hop hi hrow hoff
  go_enter Tryz.func38, Tryz.ntmps38
  go_wp2_with fail
  refine HOP.out.mono ?_
  rintro e w1 ⟨g, F1, m1, rfl, hl, hi, hm, _⟩
  have hcell : w1.cell? ⟨gl, 0, none⟩ = some (.slice A n c) := cell_of_row _ gl 0 _ _ _ (heap_mod HR.out hm HF.out)
  have hins := ldy_install hl HL.out hi (by omega) (by omega) (by omega) 8 ⟨by show 0 < 8; omega, by omega⟩ A n c l (HB.out.ext hl.dk.bel) hn
  have HST := Lib.hid hins
  clear hl hi hm hins HOP
  go_wp2_with fail
  refine wp_loop_rounds 3 ?_
  rw [rounds_succ]
  go_wp2_with fail
  refine HST.out.mono ?_
  rintro e w2 ⟨rfl, F2, m2, hl2, hi2⟩
  have HD2 := Lib.hid hl2
  have HI2 := Lib.hid hi2
  clear hl2 hi2 hcell
  go_wp2_with fail
  rw [rounds_succ]
  go_wp2_with fail
  go_ret
  exact ⟨g, F2, m2, rfl, HD2.out, HI2.out⟩
set_option maxHeartbeats 1600000 in
theorem yinstalled_many {w0 w : World} {d : Nat} {F : Nat → Prop} (h : DK w0 w d F (DM.new 156)) (hL : LaidY w0) (A : Option Addr) (n c : Nat) (L : List Lst) (hls : Lsts w0 w0.heap.size A n c L) (hn : n ≤ 6) (hin : ∀ (i : Nat) (a : Lst), L[i]? = some a → a.n ≤ 640) :
    Calls Tryz.prog 38 #[.pointer (some ⟨d, 0, none⟩), .slice A n c] w fun e w' => ∃ g F' m' s, e = .returned (.pointer (some ⟨g, 0, none⟩)) ∧ LdY w0 w' d g 2 1 F' m' s ∧ InY m' (-1) 2 s n (lastY L n) ∧ s.ix = 8 * n ∧ NInv m' ∧ (1 ≤ n → s.ar = (n + 1) % 2) := by
  have hi := InY.new 2
  have hop := ldy_openK h hL hi.cd (r := 2) (inc := 1) (by omega) (by omega) (two_someU hi.two) hi.held hi.zero
  have HOP := Lib.hid hop
  have HL := Lib.hid hL
  have HLS := Lib.hid hls
  have HIN := Lib.hid hin
  clear h hL hls hin hop hi
  go_enter Tryz.func38, Tryz.ntmps38
  go_wp2_with fail
  refine HOP.out.mono ?_
  rintro e w1 ⟨g, F1, m1, rfl, hl, hi, _, hni⟩
  have HD := Lib.hid hl
  have HI := Lib.hid hi
  have HN : Hid (NInv m1 ∧ (1 ≤ 0 → (({} : ShM)).ar = (0 + 1) % 2)) := Lib.hid ⟨hni (NInv.new 156), fun h => by omega⟩
  clear hl hi hni HOP
  go_wp2_with fail
  go_loopw [7] (fun v wr => ∃ (j : Nat) (F' : Nat → Prop) (m' : DM) (s : ShM), j ≤ n ∧ v = .int .i64 (j : Int) ∧ Hid (LdY w0 wr d g 2 1 F' m' s) ∧ Hid (InY m' (-1) 2 s j (lastY L j)) ∧ Hid (s.ix = 8 * j) ∧ Hid (NInv m' ∧ (1 ≤ j → s.ar = (j + 1) % 2))) (fun v _ => n - (intOf v).toNat)
  case atStart => exact ⟨0, F1, m1, {}, by omega, rfl, HD, HI, Lib.hid rfl, HN⟩
  case round =>
    obtain ⟨j, F', m', s, hj, rfl, HD, HI, HX, HN⟩ := hrel
    by_cases hlt : j < n
    · obtain ⟨gl, ol, a, eA, hgl, ha, hby, hcell⟩ := (HLS.out.ext HD.out.dk.bel).at_ hlt
      have hins := ldy_installN HD.out HL.out HI.out (by omega) (by omega) (by omega) (8 * j + 8) (by have := HX.out; omega) a.A a.n a.c a.l hby (HIN.out j a ha)
      have hst : Calls Tryz.prog 30 #[.pointer (some ⟨g, 0, none⟩), .int .i64 (8 * (j : Int) + 8), .slice a.A a.n a.c] wr fun e w' => e = .returned (.int .i64 0) ∧ ∃ F' m', LdY w0 w' d g 2 1 F' m' (nextY s (8 * j + 8) (chunkN a.l.length)) ∧ InY m' (-1) 2 (nextY s (8 * j + 8) (chunkN a.l.length)) (j + 1) a.l ∧ (NInv _ → NInv m') := hins
      have HST := Lib.hid hst
      have HLA := Lib.hid (lastY_succ ha)
      have HAR : Hid ((nextY s (8 * j + 8) (chunkN a.l.length)).ar = (j + 1 + 1) % 2) := Lib.hid (by
        show (if s.ix = 0 then 0 else 1 - s.ar) = _
        have hx := HX.out
        by_cases h0 : j = 0
        · subst h0; rw [if_pos (by omega)]
        · rw [if_neg (by omega), HN.out.2 (by omega)]; omega)
      subst eA
      clear hins hst ha hby hgl
      go_wp2_with fail
      refine HST.out.mono ?_
      rintro e w2 ⟨rfl, F2, m2, hl2, hi2, hn2⟩
      have HD2 := Lib.hid hl2
      have HI2 := Lib.hid hi2
      have HN2 := Lib.hid (And.intro (hn2 HN.out.1) HAR.out)
      clear hl2 hi2 hcell hn2
      go_wp2_with fail
      go_roundw
      case rel => exact ⟨j + 1, F2, m2, _, by omega, by go_num, HD2, by rw [HLA.out]; exact HI2, Lib.hid (by show 8 * j + 8 = 8 * (j + 1); omega), Lib.hid ⟨HN2.out.1, fun _ => HN2.out.2⟩⟩
      case measure => simp [intOf]; omega
    · obtain rfl : j = n := by omega
      go_wp2_with fail
      go_ret
      exact ⟨g, F', m', s, rfl, HD.out, HI.out, HX.out, HN.out.1, HN.out.2⟩
end
section
open Go Go.RowKit Go.Shelf
attribute [local go_sem] Oper.semAt_some
end
section
open Go Go.RowKit Go.Shelf
attribute [local go_sem] Oper.semAt_some
end
section
open Go Go.RowKit Go.Shelf
attribute [local go_sem] Oper.semAt_some
end
section
open Go Go.RowKit
section
variable {w : World} {d : Nat} {F : Nat → Prop} {m : DM}
end
end
section
open Go Go.RowKit
structure LD (w0 w : World) (d : Nat) (F : Nat → Prop) (g s : Nat) (r inc : Int) (m : DM) : Prop where
  dk : DK w0 w d F m
  log : LogAt w g d r inc s
  off : ¬ F g
  low : w0.heap.size ≤ g
section
variable {w0 w w' : World} {d : Nat} {F : Nat → Prop} {g s : Nat} {r inc : Int} {m m' : DM}
theorem LD.ext (h : LD w0 w d F g s r inc m) (k : Ext w w') : LD w0 w' d F g s r inc m := ⟨h.dk.ext k, h.log.ext k, h.off, h.low⟩
theorem LD.step (h : LD w0 w d F g s r inc m) (k : Step d F w m' w') : ∃ F', LD w0 w' d F' g s r inc m' :=
  ⟨grow F w w', h.dk.step k.1 k.2, h.log.mod k.2 h.off, fun hg => hg.elim h.off fun h1 => by have := h.log.lt; omega, h.low⟩
theorem LD.laid (h : LD w0 w d F g s r inc m) (hL : LaidF w0) : LaidF w := hL.ext h.dk.bel
end
end
section
open Go Go.RowKit
section
variable {w0 w : World} {d : Nat} {F : Nat → Prop} {g s : Nat} {r inc : Int} {m : DM}
end
end
section
open Go Go.RowKit
theorem wnew_dk {w0 w : World} (hx : Ext w0 w) : Calls Tryz.prog 10 #[.int .i64 156] w fun e w' => ∃ d F, e = .returned (.tuple #[.pointer (some ⟨d, 0, none⟩), .int .i64 0]) ∧ DK w0 w' d F (DM.new 156) :=
  (new_pdk 156 w (by omega) (by omega)).mono fun e w' ⟨d, h1, h2, h3⟩ => ⟨d, _, h1, h2, fun k hk => Nat.le_trans hx.size hk.1, hx.trans h3⟩
abbrev AwC (w : World) (b c : Nat) : Prop := w.cell? ⟨b, 0, none⟩ = some (.int .i64 1) ∧ w.cell? ⟨b, 1, none⟩ = some (.int .u8 2) ∧ w.cell? ⟨b, 2, none⟩ = some (.int .i64 1) ∧ w.cell? ⟨b, 3, none⟩ = some (.int .i64 0) ∧ w.cell? ⟨b, 4, none⟩ = some (.int .u8 1) ∧ w.cell? ⟨b, 5, none⟩ = some (.int .i64 0) ∧ w.cell? ⟨b, 6, none⟩ = some (.int .i64 0) ∧ w.cell? ⟨b, 7, none⟩ = some (.int .u8 0) ∧ w.cell? ⟨b, 8, none⟩ = some (.string ByteArray.empty) ∧ w.cell? ⟨b, 9, none⟩ = some (.string ByteArray.empty) ∧ w.cell? ⟨b, 10, none⟩ = some (.string ByteArray.empty) ∧ w.cell? ⟨c, 0, none⟩ = some (.int .i64 25) ∧ w.cell? ⟨c, 1, none⟩ = some (.int .u8 1) ∧ w.cell? ⟨c, 2, none⟩ = some (.int .i64 0) ∧ w.cell? ⟨c, 3, none⟩ = some (.int .i64 0) ∧ w.cell? ⟨c, 4, none⟩ = some (.int .u8 0) ∧ w.cell? ⟨c, 5, none⟩ = some (.int .i64 0) ∧ w.cell? ⟨c, 6, none⟩ = some (.int .i64 0) ∧ w.cell? ⟨c, 7, none⟩ = some (.int .u8 0) ∧ w.cell? ⟨c, 8, none⟩ = some (.string ByteArray.empty) ∧ w.cell? ⟨c, 9, none⟩ = some (.string ByteArray.empty) ∧ w.cell? ⟨c, 10, none⟩ = some (.string ByteArray.empty)
theorem AwC.of {w : World} {b c : Nat} (ha : w.heap[b]? = some (.cells #[.int .i64 1, .int .u8 2, .int .i64 1, .int .i64 0, .int .u8 1, .int .i64 0, .int .i64 0, .int .u8 0, .string ByteArray.empty, .string ByteArray.empty, .string ByteArray.empty] 150 (0, 0))) (hc : w.heap[c]? = some (.cells #[.int .i64 25, .int .u8 1, .int .i64 0, .int .i64 0, .int .u8 0, .int .i64 0, .int .i64 0, .int .u8 0, .string ByteArray.empty, .string ByteArray.empty, .string ByteArray.empty] 150 (0, 0))) : AwC w b c := ⟨cell_of_row w b 0 _ _ _ ha, cell_of_row w b 1 _ _ _ ha, cell_of_row w b 2 _ _ _ ha, cell_of_row w b 3 _ _ _ ha, cell_of_row w b 4 _ _ _ ha, cell_of_row w b 5 _ _ _ ha, cell_of_row w b 6 _ _ _ ha, cell_of_row w b 7 _ _ _ ha, cell_of_row w b 8 _ _ _ ha, cell_of_row w b 9 _ _ _ ha, cell_of_row w b 10 _ _ _ ha, cell_of_row w c 0 _ _ _ hc, cell_of_row w c 1 _ _ _ hc, cell_of_row w c 2 _ _ _ hc, cell_of_row w c 3 _ _ _ hc, cell_of_row w c 4 _ _ _ hc, cell_of_row w c 5 _ _ _ hc, cell_of_row w c 6 _ _ _ hc, cell_of_row w c 7 _ _ _ hc, cell_of_row w c 8 _ _ _ hc, cell_of_row w c 9 _ _ _ hc, cell_of_row w c 10 _ _ _ hc⟩
theorem AwC.ext {w w' : World} {b c : Nat} (hx : Ext w w') (h : AwC w b c) : AwC w' b c := by
  obtain ⟨a0, a1, a2, a3, a4, a5, a6, a7, a8, a9, a10, a11, a12, a13, a14, a15, a16, a17, a18, a19, a20, a21⟩ := h
  exact ⟨ext_of_cell hx a0, ext_of_cell hx a1, ext_of_cell hx a2, ext_of_cell hx a3, ext_of_cell hx a4, ext_of_cell hx a5, ext_of_cell hx a6, ext_of_cell hx a7, ext_of_cell hx a8, ext_of_cell hx a9, ext_of_cell hx a10, ext_of_cell hx a11, ext_of_cell hx a12, ext_of_cell hx a13, ext_of_cell hx a14, ext_of_cell hx a15, ext_of_cell hx a16, ext_of_cell hx a17, ext_of_cell hx a18, ext_of_cell hx a19, ext_of_cell hx a20, ext_of_cell hx a21⟩
end
section
open Go Go.RowKit
theorem InY.power {m : DM} {r : Int} {s : ShM} {v : Nat} {b : List Nat} (h : InY m (-1) r s v b) (k : Nat) : ∃ m', m.setPower (k : Int) = (0, m') ∧ InY m' (k : Int) r s v b := by
  obtain ⟨m', h1, h2, h3⟩ := h.cd.power_ k
  refine ⟨m', h1, h2, ?_, h.zero, h.held.same fun t _ => h3 t⟩
  have := h.two
  unfold TwoU at this ⊢
  rw [h3, h3]
  exact this
section
variable {w0 w : World} {d : Nat} {F : Nat → Prop} {m : DM}
end
end
section
open Go Go.RowKit
theorem eqlY_some_nil (a : Addr) (w : World) : (binOp .eql 76 (.pointer (some a)) (.pointer none)).run Tryz.prog w = .ok (.bool false) w := by
  have h : ∀ d : Nat, (Op.equalIn (d + 1) 76 (.pointer (some a)) (.pointer none)).run Tryz.prog w = .ok false w := fun d => by
    simp [Op.equalIn, run_underlying Tryz.underlying76]
  simp only [binOp]
  simp [Op.equal, Op.maxDepth, h 9999]
end
section
open Go Go.RowKit
structure OutY (w : World) (g gb : Nat) (F : Nat → Prop) : Prop where
  off : ¬ F gb
  ne : gb ≠ g
  lt : gb < w.heap.size
theorem LdY.insK {w0 w w' : World} {d g : Nat} {r inc : Int} {F : Nat → Prop} {m m' : DM} {s s' : ShM} (h : LdY w0 w d g r inc F m s) (k : InsY w g d r inc F m' s' w') : ∃ F', LdY w0 w' d g r inc F' m' s' ∧ Mod (fun k => F k ∨ k = g) w w' ∧ ∀ gb, OutY w g gb F → OutY w' g gb F' := by
  obtain ⟨F', hd, sub, hng, hm, hs⟩ := k
  refine ⟨F', ⟨⟨hd, fun k hk => ?_, Below.mod h.dk.bel hm h.dk.bel.size fun i hi => hi.elim (h.dk.low i) fun e => by rw [e]; exact h.low⟩, h.low, hng, hs⟩, hm, fun gb ho => ⟨fun hf => ho.off (sub gb ho.lt hf), ho.ne, Nat.lt_of_lt_of_le ho.lt hm.size⟩⟩
  by_cases hlt : k < w.heap.size
  · exact h.dk.low k (sub k hlt hk)
  · have := h.dk.bel.size; omega
theorem OutY.by_ {w w' : World} {g gb n c : Nat} {F : Nat → Prop} {l : List Nat} (h : OutY w g gb F) (hb : By w (some ⟨gb, 0, none⟩) n c l) (hm : Mod (fun k => F k ∨ k = g) w w') : By w' (some ⟨gb, 0, none⟩) n c l :=
  hb.mod hm fun p hp hf => by cases hp; exact hf.elim h.off h.ne
theorem ldy_installK {w0 w : World} {d g : Nat} {r inc : Int} {F : Nat → Prop} {m : DM} {s : ShM} {v : Nat} {b : List Nat} (h : LdY w0 w d g r inc F m s) (hL : LaidY w0) (hi : InY m (-1) r s v b) (hr : 0 ≤ r ∧ r ≤ 6) (hc : 1 ≤ inc ∧ inc ≤ 1099511627776) (hv : v < 1099511627776) (i : Nat) (hix : s.ix < i ∧ i ≤ 1099511627752) (gb n c : Nat) (bs : List Nat) (ho : OutY w g gb F) (hb : By w (some ⟨gb, 0, none⟩) n c bs) (hn : n ≤ 640) :
    Calls Tryz.prog 30 #[.pointer (some ⟨g, 0, none⟩), .int .i64 (i : Int), .slice (some ⟨gb, 0, none⟩) n c] w fun e w' => e = .returned (.int .i64 0) ∧ ∃ F' m', LdY w0 w' d g r inc F' m' (nextY s i (chunkN bs.length)) ∧ InY m' (-1) r (nextY s i (chunkN bs.length)) (v + 1) bs ∧ OutY w' g gb F' ∧ By w' (some ⟨gb, 0, none⟩) n c bs := by
  have hw := hi.cd.b.waits
  have hsz := hi.cd.b.size
  obtain ⟨m', hm⟩ := hi.install (by omega) hr hc hv hix (c := bs) (by rw [hb.len]; exact hn) hb.rd.lt
  rcases hm with ⟨h1, q, _, hq, h2⟩ | ⟨h0, _⟩
  · obtain rfl := hq rfl
    refine (yinstall_yes h.sh h.dk.disk h.off (h.laid hL) hi.held.kind hr hc hsz i hix _ n c bs hb hn (by rw [hw]; simp)).mono ?_
    rintro e w' ⟨he, hins⟩
    rw [h1] at he hins
    dsimp only at hins
    rw [if_pos rfl] at hins
    obtain ⟨F', hl, hm, hk⟩ := h.insK hins
    exact ⟨he, F', m', hl, h2, hk gb ho, ho.by_ hb hm⟩
  · exact absurd rfl h0
def b81 : List Nat := (List.replicate 81 0).set 80 7
theorem by_b81 (w : World) : By ((w.alloc (zrow 81)).setCell ⟨w.heap.size, 80, none⟩ (.int .u8 7)) (some ⟨w.heap.size, 0, none⟩) 81 81 b81 := by
  have hr := row_set 80 (heap_alloc_new w (.cells (madeCells #[.int .u8 0] 81) 5)) (.int .u8 7) rfl
  refine By.of_row hr (fun j x hx => ?_) (by decide +kernel) (by decide +kernel) (Nat.le_refl _) (by omega)
  have e : (madeCells #[Value.int .u8 0] 81).toList = List.replicate 81 (Value.int .u8 0) := toList_madeCells_one _ _
  have e2 : (List.replicate 81 (Value.int .u8 0)).set 80 (Value.int .u8 7) = b81.map fun x : Nat => Value.int .u8 (x : Int) := by
    unfold b81
    rw [List.map_set, List.map_replicate]
    rfl
  rw [← Array.getElem?_toList, Array.toList_setIfInBounds, e, e2, List.getElem?_map, hx]
  rfl
set_option maxHeartbeats 1600000 in
theorem yawake_any (w : World) (hL : LaidY w) : Calls Tryz.prog 36 #[] w fun e w' => e = .returned (.bool true) ∧ Ext w w' := by
  have he := eqlY_some_nil
  have mk81 : ∀ w, (Instr.makeSlice 45 (.int .i64 81) (.int .i64 81)).run Tryz.prog w = .ok (.slice (some ⟨w.heap.size, 0, none⟩) 81 81) (w.alloc (zrow 81)) := mk_zeros 81 (by omega)
  have HL := Lib.hid hL
  clear hL
  go_enter Tryz.func36, Tryz.ntmps36
  go_wp2_with fail
  refine (wnew_dk (Ext.refl w)).mono ?_
  rintro e w1 ⟨d, F1, rfl, hk⟩
  have hi := InY.new 2
  have HOP := Lib.hid (ldy_open hk HL.out hi.cd (r := 2) (inc := 1) (by omega) (by omega) (two_someU hi.two) hi.held hi.zero)
  clear hk hi
  go_wp2_with fail
  refine HOP.out.mono ?_
  rintro e w2 ⟨g, F2, m2, rfl, hd, hi⟩
  have hix : Calls Tryz.prog 46 #[.pointer (some ⟨g, 0, none⟩)] w2 fun e w' => e = .returned (.int .i64 0) ∧ w2 = w' := yindex_of hd.sh
  obtain ⟨a1, a2⟩ := hi.held.all_ hi.cd (by omega)
  have hby := ybytes_of hd.sh hd.dk.disk (hd.laid0 HL.out) hi.held.ct8.1 hi.held.ct8.2 (by rw [hi.cd.b.waits]; simp)
  rw [a1, a2] at hby
  have HIX := Lib.hid hix
  have HBY := Lib.hid hby
  have HD := Lib.hid hd
  have HI := Lib.hid hi
  clear hix hby hd hi a1 a2 HOP
  go_wp2_with fail
  refine HIX.out.mono ?_
  rintro e w3 ⟨rfl, rfl⟩
  go_wp2_with fail
  refine HBY.out.mono ?_
  rintro e w3 ⟨A3, N3, c3, rfl, hb3, _, hx3⟩
  obtain rfl : N3 = 0 := hb3.len.symm
  have HD3 := Lib.hid (HD.out.ext hx3)
  clear hb3 hx3 HIX HBY
  go_upto_region 9 with (fail)
  have hz := heap_alloc_new w3 (.cells (madeCells #[.int .u8 0] 81) 5)
  have hx4 : Ext w3 (w3.alloc (zrow 81)) := (Ext.refl w3).alloc _
  have hc80 : (w3.alloc (zrow 81)).cell? ⟨w3.heap.size, 80, none⟩ = some (.int .u8 0) := (cell_of_row _ w3.heap.size 80 _ _ _ hz).trans (by rw [← Array.getElem?_toList, toList_madeCells_one]; rfl)
  have hf80 : (w3.alloc (zrow 81)).frozen? ⟨w3.heap.size, 80, none⟩ = false := frozen_of_row _ w3.heap.size 80 _ _ hz
  have hb81 := by_b81 w3
  have hx5 : Ext w3 ((w3.alloc (zrow 81)).setCell ⟨w3.heap.size, 80, none⟩ (.int .u8 7)) := hx4.setCell (p := ⟨w3.heap.size, 80, none⟩) (Nat.le_refl _) _
  have HB81 := Lib.hid hb81
  have HX5 := Lib.hid hx5
  clear hz hx4 hb81 hx5
  go_upto_region 10 with (fail)
  generalize (w3.alloc (zrow 81)).setCell ⟨w3.heap.size, 80, none⟩ (.int .u8 7) = w4 at *
  have ho4 : OutY w4 g w3.heap.size F2 := ⟨fun hf => by have := HD3.out.dk.disk.lt _ hf; omega, fun e => by have := HD3.out.sh.lt; omega, by
    obtain ⟨_, _, e, hlt, _⟩ := HB81.out.rd.2 (by decide)
    cases e
    exact hlt⟩
  have HO4 := Lib.hid ho4
  clear ho4
  generalize w3.heap.size = gb at *
  have HD4 := Lib.hid (HD3.out.ext HX5.out)
  have hs1 : nextY {} 8 (chunkN b81.length) = ⟨8, 0, 2⟩ := rfl
  have hins := ldy_installK HD4.out HL.out HI.out (by omega) (by omega) (by omega) 8 ⟨by show 0 < 8; omega, by omega⟩ gb 81 81 b81 HO4.out HB81.out (by omega)
  rw [hs1] at hins
  have hst : Calls Tryz.prog 30 #[.pointer (some ⟨g, 0, none⟩), .int .i64 8, .slice (some ⟨gb, 0, none⟩) 81 81] w4 fun e w' => e = .returned (.int .i64 0) ∧ ∃ F' m', LdY w w' d g 2 1 F' m' ⟨8, 0, 2⟩ ∧ InY m' (-1) 2 ⟨8, 0, 2⟩ 1 b81 ∧ OutY w' g gb F' ∧ By w' (some ⟨gb, 0, none⟩) 81 81 b81 := hins
  have HST := Lib.hid hst
  clear hc80 hf80 hins hst hs1 HD HD3 HI
  go_wp2_with fail
  refine HST.out.mono ?_
  rintro e w5 ⟨rfl, F5, m5, hd5, hi5, ho5, hb5⟩
  have HO5 := Lib.hid (And.intro ho5 hb5)
  clear ho5 hb5
  have hix : Calls Tryz.prog 46 #[.pointer (some ⟨g, 0, none⟩)] w5 fun e w' => e = .returned (.int .i64 8) ∧ w5 = w' := yindex_of hd5.sh
  have hct : Calls Tryz.prog 48 #[.pointer (some ⟨g, 0, none⟩)] w5 fun e w' => e = .returned (.int .i64 2) ∧ w5 = w' := ycount_of hd5.sh
  obtain ⟨m6, hlo, hc6, hh6⟩ := hi5.cd.loseY (s := 126) (by omega)
  have hf5 : firstS 5 1 = 126 := by decide
  have hfs : Calls Tryz.prog 52 #[.int .i64 5, .int .i64 1] w5 fun e w' => e = .returned (.int .i64 126) ∧ Ext w5 w' := by rw [← hf5]; exact first_any 5 1 w5 (hd5.laid0 HL.out).f.a.t
  have hls : ∀ V, Ext w5 V → Calls Tryz.prog 113 #[.pointer (some ⟨d, 0, none⟩), .int .i64 126] V (Outc d F5 V 0 m6) := fun V hV => by
    have := lose_pd (hd5.dk.disk.ext hV) 126
    have hlo' : m5.lose 126 = (0, m6) := hlo
    rw [hlo'] at this
    exact this
  have hh7 : ∀ t, m6.hold t = if t = sC (8 * (⟨8, 0, 2⟩ : ShM).ar + 1) then [] else m5.hold t := hh6
  obtain ⟨k1, k2, k3⟩ := hi5.held.lose1 hi5.cd (by omega) rfl hc6 hh7
  obtain ⟨m7, q1, q2, q3⟩ := hi5.held.mend1 (inc := 1) (by decide) (by omega) (by omega) rfl (by decide +kernel) hc6 hh7
  have hch : chunkL b81 1 = [7] := by decide +kernel
  rw [hch] at q1
  have hmd : m6.mendY 2 1 ⟨8, 0, 2⟩ 1 [7] = (0, m7) := by
    unfold DM.mendY
    rw [if_pos ⟨by decide, k3⟩]
    exact q1
  have HD5 := Lib.hid hd5
  have HIX := Lib.hid hix
  have HCT := Lib.hid hct
  have HFS := Lib.hid hfs
  have HLS := Lib.hid hls
  have HK := Lib.hid (And.intro k1 (And.intro k2 hmd))
  have HC6 := Lib.hid hc6
  have HQ := Lib.hid (And.intro q2 q3)
  clear hd5 hi5 hix hct hlo hc6 hh6 hh7 hf5 hfs hls k1 k2 k3 q1 q2 q3 hch hmd HST
  go_wp2_with fail
  refine HIX.out.mono ?_
  rintro e w6 ⟨rfl, rfl⟩
  go_wp2_with fail
  refine HCT.out.mono ?_
  rintro e w6 ⟨rfl, rfl⟩
  go_wp2_with fail
  refine HFS.out.mono ?_
  rintro e w6 ⟨rfl, hx⟩
  have HX6 := Lib.hid hx
  clear hx
  go_wp2_with fail
  refine (HLS.out _ HX6.out).mono ?_
  unfold Outc
  rintro e w7 ⟨rfl, hp, hm⟩
  have hd7 : LdY w w7 d g 2 1 (grow F5 w6 w7) m6 ⟨8, 0, 2⟩ := ⟨(HD5.out.ext HX6.out).dk.step hp hm, HD5.out.low, grow_not HD5.out.off (HD5.out.ext HX6.out).sh.lt, (HD5.out.ext HX6.out).sh.mod hm HD5.out.off⟩
  have hlt6 : gb < w6.heap.size := Nat.lt_of_lt_of_le HO5.out.1.lt HX6.out.size
  have HO7 : Hid (OutY w7 g gb (grow F5 w6 w7) ∧ By w7 (some ⟨gb, 0, none⟩) 81 81 b81) := Lib.hid ⟨⟨grow_not HO5.out.1.off hlt6, HO5.out.1.ne, Nat.lt_of_lt_of_le hlt6 hm.size⟩, (HO5.out.2.ext HX6.out).mod hm fun z hz => by cases hz; exact HO5.out.1.off⟩
  generalize grow F5 w6 w7 = F7 at *
  clear hlt6
  have hw7 := HC6.out.b.waits
  have hhu := yhurt_yes hd7.sh hd7.dk.disk (hd7.laid0 HL.out) (by decide) (by decide) (by rw [hw7]; simp)
  rw [HK.out.1] at hhu
  have HHU := Lib.hid hhu
  have HD7 := Lib.hid hd7
  have HW7 := Lib.hid hw7
  clear hp hm hd7 hhu hw7
  go_wp2_with fail
  refine HHU.out.mono ?_
  rintro e w8 ⟨A8, c8, rfl, hrow, hx8⟩
  obtain ⟨g8, cap8, e8⟩ := ownsRow_succ hrow
  injection e8 with e81 e82 e83
  subst e81
  have hcell : w8.cell? ⟨g8, 0, none⟩ = some (.int .i64 1) := by
    have := hrow.cellAt 0 (by simp)
    exact this
  have hd8 := HD7.out.ext hx8
  have hby := ybytes_of hd8.sh hd8.dk.disk (hd8.laid0 HL.out) (by decide) (by decide) (by rw [HW7.out]; simp)
  rw [HK.out.2.1] at hby
  have HBY := Lib.hid hby
  have HX8 := Lib.hid hx8
  have HCE := Lib.hid hcell
  clear hrow hx8 hcell hd8 hby e82 e83
  go_wp2_with fail
  refine HBY.out.mono ?_
  rintro e w9 ⟨A9, N9, c9, rfl, _, _, hx9⟩
  have HX9 : Hid (Ext w7 w9) := Lib.hid (HX8.out.trans hx9)
  have hcell := ext_of_cell hx9 HCE.out
  have hd9 := HD7.out.ext HX9.out
  have HD9 := Lib.hid hd9
  have hx10 := (Ext.refl w9).alloc (.cells #[.int .u8 7] 5)
  have hb7 : By (w9.alloc (.cells #[.int .u8 7] 5)) (some ⟨w9.heap.size, 0, none⟩) 1 1 [7] := By.of_row (heap_alloc_new w9 (.cells #[.int .u8 7] 5)) (fun j x hx => by
    cases j with
    | zero => injection hx with hx; subst hx; rfl
    | succ j => simp at hx) (by decide) (by decide) (Nat.le_refl _) (by omega)
  have hmd := ymend_of (hd9.ext hx10).sh (hd9.ext hx10).dk.disk hd9.off ((hd9.ext hx10).laid HL.out) (.inr (by decide)) (r := 2) (by omega) (by omega) 1 _ 1 1 [7] hb7 (fun z hz hf => by
    cases hz
    have h1 := HD9.out.dk.disk.lt _ hf
    dsimp only at h1
    omega) (by rw [HW7.out]; simp)
  rw [HK.out.2.2] at hmd
  have HMD := Lib.hid hmd
  clear hx9 hd9 hmd hb7 hx10
  go_wp2_with fail
  refine HMD.out.mono ?_
  rintro e w10 ⟨rfl, hins⟩
  obtain ⟨F10, hd10, hm10, hk10⟩ := (HD9.out.ext ((Ext.refl w9).alloc (.cells #[.int .u8 7] 5))).insK hins
  have ho9 : OutY (w9.alloc (.cells #[.int .u8 7] 5)) g gb F7 := ⟨HO7.out.1.off, HO7.out.1.ne, Nat.lt_of_lt_of_le HO7.out.1.lt (HX9.out.alloc (.cells #[.int .u8 7] 5)).size⟩
  have hb10 := ho9.by_ (HO7.out.2.ext (HX9.out.alloc _)) hm10
  have hia : Calls Tryz.prog 30 #[.pointer (some ⟨g, 0, none⟩), .int .i64 8, .slice (some ⟨gb, 0, none⟩) 81 81] w10 fun e w' => e = .returned (.int .i64 2) ∧ w10 = w' := yinstall_arg hd10.sh (by decide) 8 (by decide) (some ⟨gb, 0, none⟩) 81 81
  obtain ⟨a1, a2⟩ := HQ.out.2.all_ HQ.out.1 (by omega)
  have hby := ybytes_of hd10.sh hd10.dk.disk (hd10.laid0 HL.out) (by decide) (by decide) (by rw [HQ.out.1.b.waits]; simp)
  rw [a1, a2] at hby
  have HIA := Lib.hid hia
  have HBY := Lib.hid hby
  have HB10 := Lib.hid hb10
  have HD10 := Lib.hid hd10
  clear hins hd10 hm10 hk10 ho9 hb10 hia a1 a2 hby hcell
  go_wp2_with fail
  refine HIA.out.mono ?_
  rintro e w11 ⟨rfl, rfl⟩
  go_wp2_with fail
  refine HBY.out.mono ?_
  rintro e w11 ⟨A11, N11, c11, rfl, hb11, _, hx11⟩
  have hsm := same_by A11 (some ⟨gb, 0, none⟩) b81 b81 N11 81 c11 81 w11 hb11 (HB10.out.ext hx11)
  rw [decide_eq_true rfl] at hsm
  have HSM := Lib.hid hsm
  have HX11 := Lib.hid hx11
  clear hb11 hx11 hsm
  go_wp2_with fail
  refine HSM.out.mono ?_
  rintro e w12 ⟨rfl, hx12⟩
  have HX12 := Lib.hid hx12
  clear hx12
  go_wp2_with fail
  go_ret
  exact ⟨rfl, (HD10.out.dk.bel.trans HX11.out).trans HX12.out⟩
end
section
open Go Go.RowKit
theorem flt_cellsY {w : World} {g o j n c B : Nat} {A : Option Addr} {l : List FltA} (h : Ls FltA.cells 3 w B A n c l) (hj : j < n) (hA : A = some ⟨g, o, none⟩) : ∃ a : FltA, l[j]? = some a ∧
    w.cell? ⟨g, o + j * 3, none⟩ = some (.int .u8 (a.k : Nat)) ∧ w.cell? ⟨g, o + j * 3 + 1, none⟩ = some (.int .u16 (a.s : Nat)) ∧ w.cell? ⟨g, o + j * 3 + 2, none⟩ = some (.int .u16 (a.n : Nat)) := by
  obtain ⟨g', o', a, h1, _, h2, h3⟩ := h.at_ hj
  rw [hA] at h1
  injection h1 with h1
  injection h1 with h1 h4
  subst h1 h4
  exact ⟨a, h2, h3 0 _ rfl, h3 1 _ rfl, h3 2 _ rfl⟩
set_option maxHeartbeats 400000 in
theorem hurt_ldY {w0 w : World} {d : Nat} {F : Nat → Prop} {g : Nat} {s : ShM} {r inc : Int} {m0 m : DM} (h : LdY w0 w d g r inc F m s) (hf : Flt m0 m) (A : Option Addr) (n c : Nat) (l : List FltA) (hl : Ls FltA.cells 3 w0 w0.heap.size A n c l) (ho : ∀ a ∈ l, a.Wf) :
    Calls Tryz.prog 43 #[.pointer (some ⟨d, 0, none⟩), .slice A n c] w fun e w' => (∃ v, e = .returned v) ∧ ∃ F' m', LdY w0 w' d g r inc F' m' s ∧ Flt m0 m' ∧ Kept (FY F g) (FY F' g) w w' := by
  have HA := Lib.hid hl
  have HO := Lib.hid ho
  have HD := Lib.hid h
  have HF := Lib.hid hf
  have hcap := hl.cap
  have hmost := hl.most
  have hn := Nat.zero_le n
  clear hl ho h hf
  go_enter Tryz.func43, Tryz.ntmps43
  go_wp2_with fail
  go_loopw [4] (fun i wr => ∃ (k : Nat) (G : Nat → Prop) (m : DM), k ≤ n ∧ i = .int .i64 k ∧ Hid (LdY w0 wr d g r inc G m s) ∧ Hid (Flt m0 m) ∧ Hid (Kept (FY F g) (FY G g) w wr)) (fun i _ => n - (intOf i).toNat)
  case atStart => exact ⟨0, F, m, Nat.zero_le _, rfl, HD, HF, Lib.hid (Kept.refl (FY F g) w)⟩
  case round =>
    obtain ⟨k, G, m, hkn, rfl, HD, HF, HKP⟩ := hrel
    by_cases hlt : k < n
    · obtain ⟨q, o, a0, rfl, hg, ha0, _⟩ := HA.out.at_ hlt
      obtain ⟨a, ha, c0, c1, c2⟩ := flt_cellsY (HA.out.below HD.out.dk.bel) hlt rfl
      have hw := HO.out a (List.mem_of_getElem? ha)
      obtain ⟨kk, ss, nn⟩ := a
      have hk8 : kk < 256 := hw.k
      have hs16 : ss < 65536 := hw.s
      have hn16 : nn < 65536 := hw.n
      dsimp only at c0 c1 c2
      clear ha0 ha hw
      have d0 : wr.drew.cell? ⟨q, o + k * 3, none⟩ = some (.int .u8 (kk : Int)) := c0
      have d1 : wr.drew.cell? ⟨q, o + k * 3 + 1, none⟩ = some (.int .u16 (ss : Int)) := c1
      have d2 : wr.drew.cell? ⟨q, o + k * 3 + 2, none⟩ = some (.int .u16 (nn : Int)) := c2
      have HD1 := Lib.hid (HD.out.ext (Below.drew (Ext.refl wr)))
      have h3 : kk % 3 = 0 ∨ kk % 3 = 1 ∨ kk % 3 = 2 := by omega
      have ht : (kk : Int).tmod 3 = ((kk % 3 : Nat) : Int) := by rw [Int.tmod_eq_emod_of_nonneg (by omega)]; omega
      rcases h3 with h3 | h3 | h3
      · rw [h3] at ht
        clear h3
        go_wp2_with fail
        go_region
        go_wp2_with fail
        generalize (ss : Int) % 156 = S
        refine (flip_pd HD1.out.dk.disk S (nn : Int) (by omega)).mono ?_
        rintro e w5 hq
        obtain ⟨rfl, hst⟩ := Outc.step hq
        obtain ⟨F', hk, hkp⟩ := HD1.out.stepKp hst
        have HD5 := Lib.hid hk
        have HKP5 := Lib.hid (HKP.out.trans ((Kept.of_ext (Below.drew (Ext.refl wr))).trans hkp))
        clear hq hst hk hkp
        go_wp2_with fail
        go_roundw
        case rel => exact ⟨k + 1, F', _, by omega, by go_num, HD5, Lib.hid (HF.out.flip _ _), HKP5⟩
        case measure => simp [intOf]; omega
      · rw [h3] at ht
        clear h3
        go_wp2_with fail
        go_region
        go_wp2_with fail
        generalize (ss : Int) % 156 = S
        refine (lose_pd HD1.out.dk.disk S).mono ?_
        rintro e w5 hq
        obtain ⟨rfl, hst⟩ := Outc.step hq
        obtain ⟨F', hk, hkp⟩ := HD1.out.stepKp hst
        have HD5 := Lib.hid hk
        have HKP5 := Lib.hid (HKP.out.trans ((Kept.of_ext (Below.drew (Ext.refl wr))).trans hkp))
        clear hq hst hk hkp
        go_wp2_with fail
        go_roundw
        case rel => exact ⟨k + 1, F', _, by omega, by go_num, HD5, Lib.hid (HF.out.lose _), HKP5⟩
        case measure => simp [intOf]; omega
      · rw [h3] at ht
        clear h3
        go_wp2_with fail
        go_region
        go_wp2_with fail
        generalize (ss : Int) % 156 = S
        generalize (nn : Int) % 156 = N
        refine (stray_pd HD1.out.dk.disk S N).mono ?_
        rintro e w5 hq
        obtain ⟨rfl, hst⟩ := Outc.step hq
        obtain ⟨F', hk, hkp⟩ := HD1.out.stepKp hst
        have HD5 := Lib.hid hk
        have HKP5 := Lib.hid (HKP.out.trans ((Kept.of_ext (Below.drew (Ext.refl wr))).trans hkp))
        clear hq hst hk hkp
        go_wp2_with fail
        go_roundw
        case rel => exact ⟨k + 1, F', _, by omega, by go_num, HD5, Lib.hid (HF.out.stray _ _), HKP5⟩
        case measure => simp [intOf]; omega
    · go_wp2_with fail
      go_end0
      exact ⟨⟨_, rfl⟩, G, m, HD.out, HF.out, HKP.out⟩
end
end Go.Proofs.YtgcinagkbdcgiaaGreatDoor
