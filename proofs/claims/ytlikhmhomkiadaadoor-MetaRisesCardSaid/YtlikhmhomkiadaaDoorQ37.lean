/-
  The walk of MetaDamage: with one copy damaged, so that it is seen, a Begin goes on from what was stored last; with both it is told, and nothing is stored.
  Plain facts for MetaRises: what a Begin and a Promise come to with any power, and behind a crash; what was told stays.
-/
import Derived.Test.YtlikhmhomkiadaaDoorQ17
import Derived.Test.YtlikhmhomkiadaaDoorQ35
import Derived.Test.YtlikhmhomkiadaaDoorQ36
namespace Go.Proofs.YtlikhmhomkiadaaDoor
open Go Go.RowKit

theorem dmgU {m : DM} {v : Nat} {A B : Int} (hd : CD m (-1)) (ht : TwoU 0 m 1 v (uL A B 1)) (hm : mayU A B 1 = true) (hv : 1 ≤ v) (hv2 : v < 1099511627776) (f s : Bool) :
    ∃ m1 m2, (f = true → m.lose 0 = (0, m1)) ∧ (f = false → m1 = m) ∧ (s = true → m1.lose 1 = (0, m2)) ∧ (s = false → m2 = m1) ∧ CD m1 (-1) ∧ CD m2 (-1) ∧
      ((f && s) = true → m2.beginU 0 = ⟨70, 0, 0, 0, m2⟩) ∧ ((f && s) = false → ∃ m3, m2.beginU 0 = ⟨0, A, B, 2, m3⟩) := by
  have s0 : secV 1 0 = 0 := rfl
  have s1 : secV 1 1 = 1 := rfl
  have hr : (0 : Int) ≤ 0 ∧ (0 : Int) < 7 := by omega
  obtain ⟨c, c2, h0, h1⟩ : ∃ c c2, CopU 0 (m.hold 0) 1 0 v c (uL A B 1) ∧ CopU 0 (m.hold 1) 1 1 v c2 (uL A B 1) := by
    rcases ht with ⟨h, _⟩ | ⟨_, c, c2, h0, h1⟩
    · omega
    · exact ⟨c, c2, h0, h1⟩
  have hs : Sto v (uL A B 1) A B 1 := .inr ⟨hv, hm, rfl⟩
  obtain ⟨n1, e1, d1, k1⟩ := hd.lose (s := 0) (by omega)
  obtain ⟨n2, e2, d2, k2⟩ := hd.lose (s := 1) (by omega)
  obtain ⟨n3, e3, d3, k3⟩ := d1.lose (s := 1) (by omega)
  have go : ∀ n : DM, CD n (-1) → SomeU 0 n 1 v (uL A B 1) → ∃ m3, n.beginU 0 = ⟨0, A, B, 2, m3⟩ := fun n hn hsm => by
    obtain ⟨m3, e, _⟩ := (hsm.begun hs hr hn (by omega) hv2 (by omega)).ok
    exact ⟨m3, e⟩
  cases f <;> cases s
  · exact ⟨m, m, fun h => (by cases h), fun _ => rfl, fun h => (by cases h), fun _ => rfl, hd, hd, fun h => (by cases h), fun _ => go m hd (two_someU ht)⟩
  · refine ⟨m, n2, fun h => (by cases h), fun _ => rfl, fun _ => e2, fun h => (by cases h), hd, d2, fun h => (by cases h), fun _ => go n2 d2 (.inr (.inl ⟨hv, c, ?_, ?_, fun hq => ?_⟩))⟩
    · rw [s0, k2, if_neg (by omega)]; exact h0
    · rw [s1, k2, if_pos rfl, no_copy (by rw [nil_bad]; omega)]; omega
    · rw [s1, k2, if_pos rfl, no_copy (by rw [nil_bad]; omega)] at hq; omega
  · refine ⟨n1, n1, fun _ => e1, fun h => (by cases h), fun h => (by cases h), fun _ => rfl, d1, d1, fun h => (by cases h), fun _ => go n1 d1 (.inr (.inr ⟨hv, c2, ?_, ?_⟩))⟩
    · rw [s1, k1, if_neg (by omega)]; exact h1
    · rw [s0, k1, if_pos rfl, no_copy (by rw [nil_bad]; omega)]; omega
  · refine ⟨n1, n3, fun _ => e1, fun h => (by cases h), fun _ => e3, fun h => (by cases h), d1, d3, fun _ => ?_, fun h => (by cases h)⟩
    have l3 : n3.loadE 0 1 = 70 := by
      rw [d3.loadEU (.inl rfl)]
      refine ldd_badU ?_ ?_
      · rw [s0, k3, if_neg (by omega), k1, if_pos rfl]; exact nil_bad _ _ _
      · rw [s1, k3, if_pos rfl]; exact nil_bad _ _ _
    refine beginU_zero ?_ (by omega)
    unfold DM.ldE
    rw [l3]
    rfl
theorem firstU : ∃ m1, (DM.new 156).beginU 0 = ⟨0, 0, 0, 1, m1⟩ ∧ CD m1 (-1) ∧ TwoU 0 m1 1 1 (uL 0 0 1) :=
  ((two_someU (new_twoU (r := 0) (g := 1) (.inl rfl))).begun (A := 0) (B := 0) (C := 0) (.inl ⟨rfl, rfl, rfl, rfl⟩) (by omega) CD.new (by omega) (by omega) (by omega)).ok

theorem ballot_eql (a b a' b' : Int) (w : World) : (binOp .eql 23 (.agg #[.int .i64 a, .int .i64 b]) (.agg #[.int .i64 a', .int .i64 b'])).run Tryd.prog w = .ok (.bool (a == a' && b == b')) w := by
  have hf : Tryd.prog.stoodInHeld 23 = false := by kernel_rfl
  have hu := Tryd.underlying23
  rw [run_eql_struct, run_equalIn_agg _ _ _ _ _ (by rw [Program.fieldsOf, hu]) hf, Program.fieldsOf, hu]
  simp [Op.eqFields, go_sem]
  by_cases h1 : a = a' <;> by_cases h2 : b = b' <;> simp [h1, h2]
theorem lose_dkm {w0 w : World} {d : Nat} {F : Nat → Prop} {m m' : DM} (h : DK w0 w d F m) (s E : Int) (hl : m.lose s = (E, m')) : Calls Tryd.prog 23 #[.pointer (some ⟨d, 0, none⟩), .int .i64 s] w fun e w' => e = .returned (.int .i64 E) ∧ DK w0 w' d (grow F w w') m' ∧ Mod F w w' := by
  have := lose_pd h.disk s
  rw [hl] at this
  exact this.mono fun e w' hh => ⟨hh.1, h.step hh.2.1 hh.2.2, hh.2.2⟩
/-- What is loaded ahead of a promise: the metadata, and a ballot of the list. -/
def MSd (g gl ol : Nat) (P Q R x y : Int) (w : World) : Prop := w.cell? ⟨g, 0, none⟩ = some (.int .i64 P) ∧ w.cell? ⟨g, 1, none⟩ = some (.int .i64 Q) ∧ w.cell? ⟨g, 2, none⟩ = some (.int .i64 R) ∧ w.cell? ⟨gl, ol, none⟩ = some (.int .i64 x) ∧ w.cell? ⟨gl, ol + 1, none⟩ = some (.int .i64 y)
theorem cell_mod {F : Nat → Prop} {w w' : World} {p : Addr} {v : Value} (h : w.cell? p = some v) (k : Mod F w w') (hp : ¬ F p.block) : w'.cell? p = some v := by
  rw [← h]
  exact World.cell?_of_block (k.block p.block (World.block_lt_of_cell? w p h) hp)
theorem MSd.mod {F : Nat → Prop} {w w' : World} {g gl ol : Nat} {P Q R x y : Int} (h : MSd g gl ol P Q R x y w) (k : Mod F w w') (hg : ¬ F g) (hl : ¬ F gl) : MSd g gl ol P Q R x y w' :=
  ⟨cell_mod h.1 k hg, cell_mod h.2.1 k hg, cell_mod h.2.2.1 k hg, cell_mod h.2.2.2.1 k hl, cell_mod h.2.2.2.2 k hl⟩
theorem MSd.ext {w w' : World} {g gl ol : Nat} {P Q R x y : Int} (h : MSd g gl ol P Q R x y w) (k : Ext w w') : MSd g gl ol P Q R x y w' :=
  h.mod (F := fun _ => False) (Mod.of_ext k) (fun h => h) (fun h => h)

set_option maxRecDepth 100000 in
set_option maxHeartbeats 1600000 in
theorem metaDamage_law (A : Option Addr) (n c : Nat) (l : List Bal) (f s : Bool) (w : World) (hl : Ls Bal.cells 2 w w.heap.size A n c l ∧ ∀ a ∈ l, True) (hL : LaidF w) :
    Calls Tryd.prog 6 #[.slice A n c, .bool f, .bool s] w fun e w' => e = .returned (.bool true) ∧ Below w.heap.size w w' := by
  show Calls Tryd.prog 6 #[.slice A n c, .bool f, .bool s] w fun e w' => e = .returned (.bool true) ∧ Ext w w'
  obtain ⟨m1, e1, d1, t1⟩ := firstU
  have HF := Lib.hid (And.intro e1 (And.intro d1 t1))
  have HA := Lib.hid hl.1
  have hcap := hl.1.cap
  have hmost := hl.1.most
  have HL := Lib.hid hL
  have hn0 := Nat.zero_le n
  clear e1 d1 t1 hl hL
  go_enter Tryd.func6, Tryd.ntmps6
  go_wp2_with fail
  refine (uawake_any w w (Ext.refl w) HL.out).mono ?_
  rintro e w1 ⟨rfl, hx⟩
  have HX := Lib.hid hx
  clear hx
  by_cases hn20 : 20 < n
  · go_wp2_with fail
    go_ret
    exact ⟨rfl, HX.out⟩
  go_wp2_with fail
  refine (new_dk HX.out).mono ?_
  rintro e w2 ⟨d, F1, rfl, hk⟩
  have HK := Lib.hid hk
  clear hk
  go_wp2_with fail
  have hst := Begin_dk HK.out HL.out 0 (by rfl) (by decide)
  rw [HF.out.1] at hst
  refine hst.mono ?_
  rintro e w3 ⟨rfl, hk, hm⟩
  have hk3 := hk.bel.size
  have HK := Lib.hid hk
  have HN := Lib.hid (Keep.new HK.out.disk (.cells #[.int .i64 0, .int .i64 0, .int .i64 1] 25))
  have HK := Lib.hid (HK.out.ext ((Ext.refl w3).alloc (.cells #[.int .i64 0, .int .i64 0, .int .i64 1] 25)))
  clear hk hst hm
  have HGW : Hid (w.heap.size ≤ w3.heap.size) := Lib.hid hk3
  clear hk3
  generalize hgg : w3.heap.size = g at *
  go_wp2_with fail
  go_loopw [11] (fun i wr => ∃ (k : Nat) (F' : Nat → Prop) (m' : DM) (v : Nat) (P Q : Int), k ≤ n ∧ i = .int .i64 k ∧ Hid (DK w wr d F' m') ∧ Hid (CD m' (-1)) ∧ Hid (TwoU 0 m' 1 v (uL P Q 1)) ∧ Hid (mayU P Q 1 = true) ∧ Hid (1 ≤ v ∧ v ≤ k + 1) ∧ Hid (Keep wr F' g (.cells #[.int .i64 P, .int .i64 Q, .int .i64 1] 25))) (fun i _ => n - (intOf i).toNat)
  case atStart => exact ⟨0, _, m1, 1, 0, 0, Nat.zero_le _, rfl, HK, Lib.hid HF.out.2.1, Lib.hid HF.out.2.2, Lib.hid (by decide), Lib.hid (by omega), HN⟩
  case round =>
    obtain ⟨k, F', m', v, P, Q, hkn, rfl, HK, HD, HTW, HMY, HV, HN⟩ := hrel
    by_cases hlt : k < n
    · obtain ⟨gl, o, a, rfl, hgl, ha, h0⟩ := HA.out.at_ hlt
      obtain ⟨x, y⟩ := a
      have c0 : wr.cell? ⟨gl, o + k * 2, none⟩ = some (.int .i64 x) := (Below.cell HK.out.bel (p := ⟨gl, o + k * 2, none⟩) hgl).trans (h0 0 _ rfl)
      have c1 : wr.cell? ⟨gl, o + k * 2 + 1, none⟩ = some (.int .i64 y) := (Below.cell HK.out.bel (p := ⟨gl, o + k * 2 + 1, none⟩) hgl).trans (h0 1 _ rfl)
      have hS : MSd g gl (o + k * 2) P Q 1 x y wr.drew := ⟨Ext.cell ((Ext.refl wr).drew) (three_cells HN.out.row).1.1, Ext.cell ((Ext.refl wr).drew) (three_cells HN.out.row).1.2.1, Ext.cell ((Ext.refl wr).drew) (three_cells HN.out.row).1.2.2, Ext.cell ((Ext.refl wr).drew) c0, Ext.cell ((Ext.refl wr).drew) c1⟩
      have hSa : MSd g gl (o + k * 2) P Q 1 x y (wr.alloc (.cells #[.int .i64 0, .int .i64 0, .int .i64 0] 25)).drew := hS.ext ⟨rfl, rfl, rfl, by simp, fun j hj => by exact heap_alloc_old _ _ hj⟩
      have HZR : Hid ((wr.alloc (.cells #[.int .i64 0, .int .i64 0, .int .i64 0] 25)).drew.heap[wr.heap.size]? = _) := Lib.hid (heap_alloc_new wr (.cells #[.int .i64 0, .int .i64 0, .int .i64 0] 25))
      have HZF : Hid (¬ F' wr.heap.size) := Lib.hid fun hf => Nat.lt_irrefl _ (HK.out.disk.lt _ hf)
      have HGN : Hid (¬ g = wr.heap.size) := Lib.hid fun h => by have := HN.out.lt; omega
      have HGL : Hid (¬ gl = wr.heap.size) := Lib.hid fun h => by have := HK.out.bel.size; omega
      have HNF : Hid (¬ F' g) := Lib.hid HN.out.off
      have HLF : Hid (¬ F' gl) := Lib.hid fun hf => by have := HK.out.low _ hf; omega
      have HKN : Hid (knownC m'.size 0 1 = 0) := Lib.hid (known_u HD.out.b.size (by omega))
      have HWT : Hid (m'.waits.length + 2 ≤ 1000000) := Lib.hid (by rw [HD.out.b.waits]; simp)
      obtain ⟨⟨n0, n1, n2⟩, _⟩ := three_cells HN.out.row
      clear h0
      by_cases hp : promOk P Q 1 x y = true
      · have hmy := (promOk_may hp).2.1
        obtain ⟨m2, e2, d2, t2⟩ := (HTW.out.told (x := x) (y := y) (c := 1) (by omega) HD.out (by omega) (by have := HV.out; omega) hmy).ok
        have HQ : Hid (m'.promU 0 P Q 1 x y = ⟨0, x, y, 1, m2⟩) := Lib.hid (by rw [promU_yes hp, e2])
        have HD2 := Lib.hid d2
        have HTW2 := Lib.hid t2
        have HMY2 := Lib.hid hmy
        clear hp hmy e2 d2 t2
        go_wp2_with fail
        go_region_held3 (fun w' => w'.cell? ⟨g, 0, none⟩ = some (.int .i64 P) ∧ w'.cell? ⟨g, 1, none⟩ = some (.int .i64 Q) ∧ w'.cell? ⟨g, 2, none⟩ = some (.int .i64 1) ∧ w'.cell? ⟨gl, o + k * 2, none⟩ = some (.int .i64 x) ∧ w'.cell? ⟨gl, o + k * 2 + 1, none⟩ = some (.int .i64 y))
          (first | exact hS | exact hS2 | exact MSd.ext hS ((Ext.refl _).alloc _) | exact MSd.ext hS2 ((Ext.refl _).alloc _) | exact hSa | exact MSd.mod hS2 (three_mod _ _ _ _) HGN.out HGL.out)
          (first
            | (go_at_call 18; ((with_reducible refine (Promise_dk (HK.out.ext ?_) HL.out 0 P Q 1 x y HKN.out HWT.out).mono ?_); (first | with_reducible exact (Ext.refl _).drew | with_reducible exact ((Ext.refl _).alloc _).drew); rw [HQ.out]; rintro e ws ⟨rfl, hk, hm⟩; have HK2 := Lib.hid hk; (first | (obtain ⟨⟨z0, z1, z2⟩, q0, q1, q2⟩ := three_cells (heap_mod HZR.out hm HZF.out)) | skip); have hS2 := MSd.mod (g := g) (gl := gl) (ol := o + k * 2) (P := P) (Q := Q) (R := 1) (x := x) (y := y) (by assumption) hm HNF.out HLF.out; have HM2 := Lib.hid hm; clear hk hm)))
        · have HK3 := Lib.hid (HK2.out.ext ((Ext.refl ws).alloc (.cells #[.int .i64 x, .int .i64 y, .int .i64 1] 25)))
          have HKM := Lib.hid (Keep.new HK2.out.disk (.cells #[.int .i64 x, .int .i64 y, .int .i64 1] 25))
          have HKN := Lib.hid ((((HN.out.ext (Ext.refl wr).drew).step HM2.out)).ext ((Ext.refl ws).alloc (.cells #[.int .i64 x, .int .i64 y, .int .i64 1] 25)))
          clear n0 n1 n2 hS hS2 hSa
          generalize (ws.alloc (.cells #[.int .i64 x, .int .i64 y, .int .i64 1] 25)) = W2 at *
          generalize ws.heap.size = gm at *
          obtain ⟨⟨y0, y1, y2⟩, _⟩ := three_cells HKM.out.row
          obtain ⟨_, q0, q1, q2⟩ := three_cells HKN.out.row
          clear c0 c1
          go_wp2_with fail
          go_roundw
          case rel =>
            have hmod := three_mod (w := W2) g (.int .i64 x) (.int .i64 y) (.int .i64 1)
            exact ⟨k + 1, _, m2, v + 1, x, y, by omega, by go_num, Lib.hid (HK3.out.mod hmod (fun i hi he => by subst he; exact HKN.out.off hi) (fun i hi => by rw [hi]; exact HGW.out)), HD2, HTW2, HMY2, Lib.hid (by have := HV.out; omega), Lib.hid ⟨three_row HKN.out.row _ _ _, HKN.out.off⟩⟩
          case measure => simp [intOf]; omega
        · have hnf : ¬ grow F' (wr.alloc (.cells #[.int .i64 0, .int .i64 0, .int .i64 0] 25)).drew ws wr.heap.size := fun hf => hf.elim HZF.out fun h2 => by
            have h3 := h2.1
            have h4 : (wr.alloc (.cells #[.int .i64 0, .int .i64 0, .int .i64 0] 25)).drew.heap.size = wr.heap.size + 1 := by simp [World.drew]
            omega
          have HK3 := Lib.hid (HK2.out.mod (three_mod (w := ws) wr.heap.size (.int .i64 x) (.int .i64 y) (.int .i64 1)) (fun i hi he => by subst he; exact hnf hi) (fun i hi => by rw [hi]; exact HK.out.bel.size))
          have HKM : Hid (Keep _ _ wr.heap.size (.cells #[.int .i64 x, .int .i64 y, .int .i64 1] 25)) := Lib.hid ⟨three_row (heap_mod HZR.out HM2.out HZF.out) (.int .i64 x) (.int .i64 y) (.int .i64 1), hnf⟩
          have HKN := Lib.hid (((HN.out.ext (((Ext.refl wr).alloc (.cells #[.int .i64 0, .int .i64 0, .int .i64 0] 25)).drew)).step HM2.out).mod (three_mod (w := ws) wr.heap.size (.int .i64 x) (.int .i64 y) (.int .i64 1)) HGN.out)
          clear n0 n1 n2 hS hS2 hSa hnf z0 z1 z2 q0 q1 q2
          generalize (((ws.setCell ⟨wr.heap.size, 0, none⟩ (.int .i64 x)).setCell ⟨wr.heap.size, 1, none⟩ (.int .i64 y)).setCell ⟨wr.heap.size, 2, none⟩ (.int .i64 1)) = W2 at *
          generalize wr.heap.size = gm at *
          obtain ⟨⟨y0, y1, y2⟩, _⟩ := three_cells HKM.out.row
          obtain ⟨_, q0, q1, q2⟩ := three_cells HKN.out.row
          clear c0 c1
          go_wp2_with fail
          go_roundw
          case rel =>
            have hmod := three_mod (w := W2) g (.int .i64 x) (.int .i64 y) (.int .i64 1)
            exact ⟨k + 1, _, m2, v + 1, x, y, by omega, by go_num, Lib.hid (HK3.out.mod hmod (fun i hi he => by subst he; exact HKN.out.off hi) (fun i hi => by rw [hi]; exact HGW.out)), HD2, HTW2, HMY2, Lib.hid (by have := HV.out; omega), Lib.hid ⟨three_row HKN.out.row _ _ _, HKN.out.off⟩⟩
          case measure => simp [intOf]; omega
      · have HQ : Hid (m'.promU 0 P Q 1 x y = ⟨2, 0, 0, 0, m'⟩) := Lib.hid (promU_no (by simpa using hp))
        clear hp
        go_wp2_with fail
        go_region_held3 (fun w' => w'.cell? ⟨g, 0, none⟩ = some (.int .i64 P) ∧ w'.cell? ⟨g, 1, none⟩ = some (.int .i64 Q) ∧ w'.cell? ⟨g, 2, none⟩ = some (.int .i64 1) ∧ w'.cell? ⟨gl, o + k * 2, none⟩ = some (.int .i64 x) ∧ w'.cell? ⟨gl, o + k * 2 + 1, none⟩ = some (.int .i64 y))
          (first | exact hS | exact hS2 | exact MSd.ext hS ((Ext.refl _).alloc _) | exact MSd.ext hS2 ((Ext.refl _).alloc _) | exact hSa | exact MSd.mod hS2 (three_mod _ _ _ _) HGN.out HGL.out)
          (first
            | (go_at_call 18; ((with_reducible refine (Promise_dk (HK.out.ext ?_) HL.out 0 P Q 1 x y HKN.out HWT.out).mono ?_); (first | with_reducible exact (Ext.refl _).drew | with_reducible exact ((Ext.refl _).alloc _).drew); rw [HQ.out]; rintro e ws ⟨rfl, hk, hm⟩; have HK2 := Lib.hid hk; (first | (obtain ⟨⟨z0, z1, z2⟩, q0, q1, q2⟩ := three_cells (heap_mod HZR.out hm HZF.out)) | skip); have hS2 := MSd.mod (g := g) (gl := gl) (ol := o + k * 2) (P := P) (Q := Q) (R := 1) (x := x) (y := y) (by assumption) hm HNF.out HLF.out; have HM2 := Lib.hid hm; clear hk hm)))
        · have HK3 := Lib.hid (HK2.out.ext ((Ext.refl ws).alloc (.cells #[.int .i64 0, .int .i64 0, .int .i64 0] 25)))
          have HKM := Lib.hid (Keep.new HK2.out.disk (.cells #[.int .i64 0, .int .i64 0, .int .i64 0] 25))
          have HKN := Lib.hid ((((HN.out.ext (Ext.refl wr).drew).step HM2.out)).ext ((Ext.refl ws).alloc (.cells #[.int .i64 0, .int .i64 0, .int .i64 0] 25)))
          clear n0 n1 n2 hS hS2 hSa
          generalize (ws.alloc (.cells #[.int .i64 0, .int .i64 0, .int .i64 0] 25)) = W2 at *
          generalize ws.heap.size = gm at *
          clear c0 c1
          go_wp2_with fail
          go_roundw
          case rel => exact ⟨k + 1, _, m', v, P, Q, by omega, by go_num, HK3, HD, HTW, HMY, Lib.hid (by have := HV.out; omega), HKN⟩
          case measure => simp [intOf]; omega
        · have hnf : ¬ grow F' (wr.alloc (.cells #[.int .i64 0, .int .i64 0, .int .i64 0] 25)).drew ws wr.heap.size := fun hf => hf.elim HZF.out fun h2 => by
            have h3 := h2.1
            have h4 : (wr.alloc (.cells #[.int .i64 0, .int .i64 0, .int .i64 0] 25)).drew.heap.size = wr.heap.size + 1 := by simp [World.drew]
            omega
          have HK3 := Lib.hid (HK2.out.mod (three_mod (w := ws) wr.heap.size (.int .i64 0) (.int .i64 0) (.int .i64 0)) (fun i hi he => by subst he; exact hnf hi) (fun i hi => by rw [hi]; exact HK.out.bel.size))
          have HKM : Hid (Keep _ _ wr.heap.size (.cells #[.int .i64 0, .int .i64 0, .int .i64 0] 25)) := Lib.hid ⟨three_row (heap_mod HZR.out HM2.out HZF.out) (.int .i64 0) (.int .i64 0) (.int .i64 0), hnf⟩
          have HKN := Lib.hid (((HN.out.ext (((Ext.refl wr).alloc (.cells #[.int .i64 0, .int .i64 0, .int .i64 0] 25)).drew)).step HM2.out).mod (three_mod (w := ws) wr.heap.size (.int .i64 0) (.int .i64 0) (.int .i64 0)) HGN.out)
          clear n0 n1 n2 hS hS2 hSa hnf z0 z1 z2 q0 q1 q2
          generalize (((ws.setCell ⟨wr.heap.size, 0, none⟩ (.int .i64 0)).setCell ⟨wr.heap.size, 1, none⟩ (.int .i64 0)).setCell ⟨wr.heap.size, 2, none⟩ (.int .i64 0)) = W2 at *
          generalize wr.heap.size = gm at *
          clear c0 c1
          go_wp2_with fail
          go_roundw
          case rel => exact ⟨k + 1, _, m', v, P, Q, by omega, by go_num, HK3, HD, HTW, HMY, Lib.hid (by have := HV.out; omega), HKN⟩
          case measure => simp [intOf]; omega
    · have HKn := Lib.hid (show k = n by omega)
      obtain ⟨m2, m3, l1, l2, l3, l4, d2, d3, b1, b2⟩ := dmgU HD.out HTW.out HMY.out HV.out.1 (by have := HV.out.2; omega) f s
      have HD2 := Lib.hid d2
      have HD3 := Lib.hid d3
      clear d2 d3
      cases f <;> cases s
      · obtain rfl := l2 rfl
        obtain rfl := l4 rfl
        obtain ⟨m4, hb⟩ := b2 rfl
        have HBG := Lib.hid hb
        clear hb b1 b2 l1 l2 l3 l4
        go_wp2_with fail
        have hst := Begin_dk HK.out HL.out 0 (known_u HD3.out.b.size (by omega)) (by rw [HD3.out.b.waits]; simp)
        rw [HBG.out] at hst
        refine hst.mono ?_
        rintro e wb ⟨rfl, hk, hm⟩
        have HM := Lib.hid (Keep.new hk.disk (.cells #[.int .i64 P, .int .i64 Q, .int .i64 2] 25))
        have HN := Lib.hid ((HN.out.step hm).ext ((Ext.refl wb).alloc (.cells #[.int .i64 P, .int .i64 Q, .int .i64 2] 25)))
        have HE := Lib.hid (hk.ext ((Ext.refl wb).alloc (.cells #[.int .i64 P, .int .i64 Q, .int .i64 2] 25))).bel
        clear hk hm hst
        obtain ⟨⟨y0, y1, y2⟩, _⟩ := three_cells HM.out.row
        obtain ⟨⟨n0, n1, n2⟩, _⟩ := three_cells HN.out.row
        have heq := fun a b c a' b' c' => meta_eql a b c a' b' c'
        have hbq := fun a b a' b' => ballot_eql a b a' b'
        go_wp2_with fail
        go_ret
        exact ⟨rfl, HE.out⟩
      · obtain rfl := l2 rfl
        have hl3 := l3 rfl
        obtain ⟨m4, hb⟩ := b2 rfl
        have HBG := Lib.hid hb
        clear hb b1 b2 l1 l2 l3 l4
        have HL3 := Lib.hid hl3
        clear hl3
        go_wp2_with fail
        refine (lose_dkm HK.out 1 0 HL3.out).mono ?_
        rintro e wa1 ⟨rfl, hk, hm⟩
        have HN := Lib.hid (HN.out.step hm)
        have HK := Lib.hid hk
        clear hk hm
        go_wp2_with fail
        have hst := Begin_dk HK.out HL.out 0 (known_u HD3.out.b.size (by omega)) (by rw [HD3.out.b.waits]; simp)
        rw [HBG.out] at hst
        refine hst.mono ?_
        rintro e wb ⟨rfl, hk, hm⟩
        have HM := Lib.hid (Keep.new hk.disk (.cells #[.int .i64 P, .int .i64 Q, .int .i64 2] 25))
        have HN := Lib.hid ((HN.out.step hm).ext ((Ext.refl wb).alloc (.cells #[.int .i64 P, .int .i64 Q, .int .i64 2] 25)))
        have HE := Lib.hid (hk.ext ((Ext.refl wb).alloc (.cells #[.int .i64 P, .int .i64 Q, .int .i64 2] 25))).bel
        clear hk hm hst
        obtain ⟨⟨y0, y1, y2⟩, _⟩ := three_cells HM.out.row
        obtain ⟨⟨n0, n1, n2⟩, _⟩ := three_cells HN.out.row
        have heq := fun a b c a' b' c' => meta_eql a b c a' b' c'
        have hbq := fun a b a' b' => ballot_eql a b a' b'
        go_wp2_with fail
        go_ret
        exact ⟨rfl, HE.out⟩
      · have hl1 := l1 rfl
        obtain rfl := l4 rfl
        obtain ⟨m4, hb⟩ := b2 rfl
        have HBG := Lib.hid hb
        clear hb b1 b2 l1 l2 l3 l4
        have HL1 := Lib.hid hl1
        clear hl1
        go_wp2_with fail
        refine (lose_dkm HK.out 0 0 HL1.out).mono ?_
        rintro e wa0 ⟨rfl, hk, hm⟩
        have HN := Lib.hid (HN.out.step hm)
        have HK := Lib.hid hk
        clear hk hm
        go_wp2_with fail
        have hst := Begin_dk HK.out HL.out 0 (known_u HD3.out.b.size (by omega)) (by rw [HD3.out.b.waits]; simp)
        rw [HBG.out] at hst
        refine hst.mono ?_
        rintro e wb ⟨rfl, hk, hm⟩
        have HM := Lib.hid (Keep.new hk.disk (.cells #[.int .i64 P, .int .i64 Q, .int .i64 2] 25))
        have HN := Lib.hid ((HN.out.step hm).ext ((Ext.refl wb).alloc (.cells #[.int .i64 P, .int .i64 Q, .int .i64 2] 25)))
        have HE := Lib.hid (hk.ext ((Ext.refl wb).alloc (.cells #[.int .i64 P, .int .i64 Q, .int .i64 2] 25))).bel
        clear hk hm hst
        obtain ⟨⟨y0, y1, y2⟩, _⟩ := three_cells HM.out.row
        obtain ⟨⟨n0, n1, n2⟩, _⟩ := three_cells HN.out.row
        have heq := fun a b c a' b' c' => meta_eql a b c a' b' c'
        have hbq := fun a b a' b' => ballot_eql a b a' b'
        go_wp2_with fail
        go_ret
        exact ⟨rfl, HE.out⟩
      · have hl1 := l1 rfl
        have hl3 := l3 rfl
        have hb := b1 rfl
        have HBG := Lib.hid hb
        clear hb b1 b2 l1 l2 l3 l4
        have HL1 := Lib.hid hl1
        clear hl1
        have HL3 := Lib.hid hl3
        clear hl3
        go_wp2_with fail
        refine (lose_dkm HK.out 0 0 HL1.out).mono ?_
        rintro e wa0 ⟨rfl, hk, hm⟩
        have HN := Lib.hid (HN.out.step hm)
        have HK := Lib.hid hk
        clear hk hm
        go_wp2_with fail
        refine (lose_dkm HK.out 1 0 HL3.out).mono ?_
        rintro e wa1 ⟨rfl, hk, hm⟩
        have HN := Lib.hid (HN.out.step hm)
        have HK := Lib.hid hk
        clear hk hm
        go_wp2_with fail
        have hst := Begin_dk HK.out HL.out 0 (known_u HD3.out.b.size (by omega)) (by rw [HD3.out.b.waits]; simp)
        rw [HBG.out] at hst
        refine hst.mono ?_
        rintro e wb ⟨rfl, hk, hm⟩
        have HM := Lib.hid (Keep.new hk.disk (.cells #[.int .i64 0, .int .i64 0, .int .i64 0] 25))
        have HN := Lib.hid ((HN.out.step hm).ext ((Ext.refl wb).alloc (.cells #[.int .i64 0, .int .i64 0, .int .i64 0] 25)))
        have HE := Lib.hid (hk.ext ((Ext.refl wb).alloc (.cells #[.int .i64 0, .int .i64 0, .int .i64 0] 25))).bel
        clear hk hm hst
        obtain ⟨⟨y0, y1, y2⟩, _⟩ := three_cells HM.out.row
        obtain ⟨⟨n0, n1, n2⟩, _⟩ := three_cells HN.out.row
        have heq := fun a b c a' b' c' => meta_eql a b c a' b' c'
        have hbq := fun a b a' b' => ballot_eql a b a' b'
        go_wp2_with fail
        go_ret
        exact ⟨rfl, HE.out⟩
end Go.Proofs.YtlikhmhomkiadaaDoor

namespace Go.Proofs.YtlikhmhomkiadaaDoor
open Go Go.RowKit

/-- Is the ballot x, y at least a, b? -/
def geB (x y a b : Int) : Bool := decide (a < x) || (decide (x = a) && decide (b ≤ y))
theorem geB_iff {x y a b : Int} : geB x y a b = true ↔ (a < x ∨ (x = a ∧ b ≤ y)) := by unfold geB; simp
theorem abv_ge {x y a b : Int} (h : abvB x y a b = true) : geB x y a b = true := by
  unfold abvB at h
  rw [geB_iff]
  split at h
  · rename_i e; exact .inr ⟨e, by simp at h; omega⟩
  · simp at h; exact .inl h
theorem geB_refl (x y : Int) : geB x y x y = true := geB_iff.2 (.inr ⟨rfl, Int.le_refl _⟩)
theorem geB_trans {x y a b c d : Int} (h : geB x y a b = true) (k : geB a b c d = true) : geB x y c d = true := by
  rw [geB_iff] at *
  omega
theorem CD.power2 {m : DM} {pw : Int} (h : CD m pw) (k : Nat) : ∃ m', m.setPower (k : Int) = (0, m') ∧ CD m' (k : Int) ∧ ∀ t, m'.hold t = m.hold t := by
  have hok := DM.setPower_ok h.b.ok (k : Int)
  have e : m.setPower (k : Int) = (0, { m with power := (k : Int) }) := by
    unfold DM.setPower
    rw [if_neg (by rw [h.up]; simp), if_neg (by omega)]
  rw [e] at hok
  exact ⟨_, e, ⟨⟨hok, h.b.size, h.b.waits, h.b.down⟩, h.dead, rfl⟩, fun t => rfl⟩

/-- What holds at the beginning of each step: the disk, its power, what was told last, how often it began, the highest promise told, the highest tried. -/
structure RI (m : DM) (q a b c G hx hy tx ty : Int) (i : Nat) : Prop where
  cd : CD m q
  q1 : -1 ≤ q
  st : ∃ (v : Nat) (body : List Nat) (A B C : Int), SomeU 2 m 1 v body ∧ Sto v body A B C ∧ v ≤ i ∧ C ≤ i ∧ c ≤ C ∧ 0 ≤ C ∧ geB A B hx hy = true ∧ (geB hx hy A B = true ∨ geB tx ty A B = true) ∧ (0 < G → TwoU 2 m 1 v body ∧ 1 ≤ v ∧ a = A ∧ b = B ∧ c = C ∧ hx = A ∧ hy = B)
  g : G = 0 ∨ (0 < G ∧ G = c)
theorem RI.start : RI (DM.new 156) (-1) 0 0 0 0 0 0 0 0 0 :=
  ⟨CD.new, by omega, ⟨0, [], 0, 0, 0, two_someU (new_twoU (.inl rfl)), .inl ⟨rfl, rfl, rfl, rfl⟩, by omega, by omega, by omega, by omega, geB_refl _ _, .inl (geB_refl _ _), fun h => absurd h (by omega)⟩, .inl rfl⟩
section
variable {m : DM} {q a b c G hx hy tx ty : Int} {i : Nat}
theorem RI.power (h : RI m q a b c G hx hy tx ty i) (k : Nat) : ∃ m', m.setPower (k : Int) = (0, m') ∧ RI m' k a b c G hx hy tx ty i := by
  obtain ⟨m', e, d, ho⟩ := h.cd.power2 k
  obtain ⟨v, body, A, B, C, h1, h2, h3, h4, h5, h6, h7, h8, h9⟩ := h.st
  exact ⟨m', e, d, by omega, ⟨v, body, A, B, C, h1.of_eq (ho _) (ho _), h2, h3, h4, h5, h6, h7, h8, fun hG => ⟨(h9 hG).1.of_eq (ho _) (ho _), (h9 hG).2⟩⟩, h.g⟩
theorem RI.later (h : RI m q a b c G hx hy tx ty i) : RI m q a b c G hx hy tx ty (i + 1) := by
  obtain ⟨v, body, A, B, C, h1, h2, h3, h4, h5⟩ := h.st
  exact ⟨h.cd, h.q1, ⟨v, body, A, B, C, h1, h2, by omega, by omega, h5⟩, h.g⟩
theorem Sto.at1 {v : Nat} {body : List Nat} {A B C : Int} (h : Sto v body A B C) (hv : 1 ≤ v) : mayU A B C = true := by
  rcases h with ⟨h, _⟩ | ⟨_, h, _⟩
  · omega
  · exact h
/-- What a crash leaves, and a start: whatever was told stays. -/
def Crashed (m : DM) (P : DM → Prop) : Prop := ∀ keep : List Bool, ∃ n1 n2, m.crash keep = (0, n1) ∧ n1.start = (0, n2) ∧ P n2
theorem After.crashed {P Q : DM → Prop} (h : After m P) (k : ∀ n, CD n (-1) → P n → Q n) : Crashed m Q := fun keep => by
  obtain ⟨h1, h2, h3, h4⟩ := h keep
  exact ⟨(m.crash keep).2, (m.crash keep).2.start.2, Prod.ext h1 rfl, Prod.ext h2 rfl, k _ h3 h4⟩
theorem RI.begin_ (h : RI m q a b c G hx hy tx ty i) (hi : i ≤ 40) :
    (∃ m2 q2 A B C, m.beginU 2 = ⟨0, A, B, C, m2⟩ ∧ c < C ∧ 0 < C ∧ geB A B hx hy = true ∧ (geB hx hy A B = true ∨ geB tx ty A B = true) ∧ RI m2 q2 A B C C A B tx ty (i + 1)) ∨
    (∃ m2, m.beginU 2 = ⟨5, 0, 0, 0, m2⟩ ∧ Crashed m2 fun n => RI n (-1) a b c 0 hx hy tx ty (i + 1)) := by
  obtain ⟨v, body, A, B, C, h1, h2, h3, h4, h5, h6, h7, h8, _⟩ := h.st
  have hr : (0 : Int) ≤ 2 ∧ (2 : Int) < 7 := by omega
  have hm := h2.next (by omega)
  rcases (h1.begun h2 hr h.cd h.q1 (by omega) (by omega)).eqs with ⟨m2, q2, e, hq, _, hd, ht⟩ | ⟨m2, _, e, ha⟩
  · exact .inl ⟨m2, q2, A, B, 1 + C, e, by omega, by omega, h7, h8, hd, hq, ⟨v + 1, uL A B (1 + C), A, B, 1 + C, two_someU ht, Sto.of hm, by omega, by omega, by omega, by omega, geB_refl _ _, .inl (geB_refl _ _), fun _ => ⟨ht, by omega, rfl, rfl, rfl, rfl, rfl⟩⟩, .inr ⟨by omega, rfl⟩⟩
  · refine .inr ⟨m2, e, ha.crashed fun n hn hp => ⟨hn, by omega, ?_, .inl rfl⟩⟩
    rcases hp with hp | hp
    · exact ⟨v, body, A, B, C, hp, h2, by omega, by omega, h5, h6, h7, h8, fun h => absurd h (by omega)⟩
    · exact ⟨v + 1, _, A, B, 1 + C, hp, Sto.of hm, by omega, by omega, by omega, by omega, h7, h8, fun h => absurd h (by omega)⟩
theorem RI.prom (h : RI m q a b c G hx hy tx ty i) (hi : i ≤ 40) (hG : 0 < G) {x y : Int} (hp : promOk a b c x y = true) :
    (∃ m2 q2, m.promU 2 a b c x y = ⟨0, x, y, c, m2⟩ ∧ geB x y hx hy = true ∧ RI m2 q2 x y c c x y tx ty (i + 1) ∧ 0 < c) ∨
    (∃ m2, m.promU 2 a b c x y = ⟨5, 0, 0, 0, m2⟩ ∧ Crashed m2 fun n => RI n (-1) a b c 0 hx hy (if geB x y tx ty = true then x else tx) (if geB x y tx ty = true then y else ty) (i + 1)) := by
  obtain ⟨v, body, A, B, C, h1, h2, h3, h4, h5, h6, h7, h8, h9⟩ := h.st
  obtain ⟨ht, hv, ea, eb, ec, eh, ei⟩ := h9 hG
  have hr : (0 : Int) ≤ 2 ∧ (2 : Int) < 7 := by omega
  obtain ⟨_, hm, hab⟩ := promOk_may hp
  have hc := (mayU_iff.1 hm).2
  have hge : geB x y hx hy = true := by rw [eh, ei, ← ea, ← eb]; exact abv_ge hab
  have hT : geB (if geB x y tx ty = true then x else tx) (if geB x y tx ty = true then y else ty) x y = true ∧ (∀ u z, geB tx ty u z = true → geB (if geB x y tx ty = true then x else tx) (if geB x y tx ty = true then y else ty) u z = true) := by
    by_cases hg : geB x y tx ty = true
    · rw [if_pos hg, if_pos hg]; exact ⟨geB_refl _ _, fun u z hu => geB_trans hg hu⟩
    · rw [if_neg hg, if_neg hg]
      refine ⟨?_, fun u z hu => hu⟩
      rw [geB_iff] at *
      omega
  rw [promU_yes hp]
  rcases (ht.told hr h.cd h.q1 (by omega) hm).eqs with ⟨m2, q2, e, hq, _, hd, ht2⟩ | ⟨m2, _, e, ha⟩
  · exact .inl ⟨m2, q2, e, hge, ⟨hd, hq, ⟨v + 1, uL x y c, x, y, c, two_someU ht2, Sto.of hm, by omega, by omega, by omega, by omega, geB_refl _ _, .inl (geB_refl _ _), fun _ => ⟨ht2, by omega, rfl, rfl, rfl, rfl, rfl⟩⟩, .inr ⟨by omega, rfl⟩⟩, by omega⟩
  · refine .inr ⟨m2, e, ha.crashed fun n hn hp => ⟨hn, by omega, ?_, .inl rfl⟩⟩
    rcases hp with hp | hp
    · exact ⟨v, body, A, B, C, hp, h2, by omega, by omega, h5, h6, h7, h8.imp id (hT.2 _ _), fun h => absurd h (by omega)⟩
    · exact ⟨v + 1, _, x, y, c, hp, Sto.of hm, by omega, by omega, by omega, by omega, hge, .inr hT.1, fun h => absurd h (by omega)⟩
end
end Go.Proofs.YtlikhmhomkiadaaDoor
