/-
  The contract of the disk's Write.
  A row of the call's own whose cells are overwritten one by one; sums of rows that are xored.
  The contracts of a sector's flipped, and the disk's Flip.
  The contract of the disk's Crash.
-/
import Derived.Test.YtlikhmhomkiadaaGreatDoorM01
import Derived.Test.YtlikhmhomkiadaaGreatDoorM04
import Derived.Laws.CopyOwn
import Derived.Deep.AppendLies
import Derived.Lib.SmallJoins
import Derived.Laws.BitsAllLaws
namespace Go.Proofs.YtlikhmhomkiadaaGreatDoor
set_option maxRecDepth 100000
open Go Go.RowKit

theorem wri_info3 : (Tryz.prog.info? 165).map (fun i => (i.zero, i.size, i.bytes)) = some (some (.agg zWri), 65, 72) := by kernel_rfl
theorem wri_built (k : Nat) : ∀ w, (Instr.build 165 #[(1, .int .i64 (k : Int))]).run Tryz.prog w = .ok (.agg (wriC (k, z64)).toArray) w := fun w => run_build w _ _ _ (by kernel_rfl)
theorem wb_wri {ops : Array Oper} {rest : List Oper} {o : Oper} {a : Act} {w : World} {Q : Exit → Act → World → Prop} (hgd : o.guard = none) (x : Operand) (k : Nat) (ho : o.op = .build 165 #[(1, x)]) (hx : a.eval x = .int .i64 (k : Int))
    (h : wpList Tryz.prog ops Q rest (a.put o.dst (.agg (wriC (k, z64)).toArray)) w) : wpList Tryz.prog ops Q (o :: rest) a w :=
  wpList_plain hgd fun _ hK => by
    unfold Oper.wp execOp
    have hb := wri_built k w
    simp only [ho, List.map_toArray, List.map_cons, List.map_nil, hx, Sem.run_bind, hb, Result.andThen_ok, Sem.run_pure]
    exact hK _ _ h
theorem wl_copy {ops : Array Oper} {rest : List Oper} {o : Oper} {a : Act} {w : World} {Q : Exit → Act → World → Prop} (hgd : o.guard = none) (d s : Operand) (ho : o.op = .call { callee := .builtin .copy, args := #[d, s], argTypes := #[34, 34] })
    (k : Nat) (l : List Nat) (hl : l.length = 64) (A : Option Addr) (c : Nat) (hd : a.eval d = .slice (some ⟨w.heap.size, 0, none⟩) 64 64) (hs : a.eval s = .slice A 64 c) (hb : By w A 64 c l)
    (h : wpList Tryz.prog ops Q rest (a.put o.dst (goInt 64)) (w.alloc (.cells (wriC (k, l)).toArray 165))) : wpList Tryz.prog ops Q (o :: rest) a (w.alloc (.cells (wriC (k, z64)).toArray 165)) := by
  obtain ⟨g, o', x, rfl, hg, _⟩ := hb.rd.at_ (k := 0) (by omega)
  have hu : Tryz.prog.underlying 34 = some (.slice 5) := Tryz.underlying34
  have hsz : (Tryz.prog.info? 5).map (·.size) = some 1 := by kernel_rfl
  refine wpList_copy_own hgd d s 34 34 ho 5 hu hsz w.heap.size 0 64 64 ⟨g, o', none⟩ 64 c hd hs (wriC (k, z64)).toArray 165 (heap_alloc_new w _) (vb l) (by rw [vb_length, hl]; rfl) (fun j v hv => ?_) (by simp [vb_length, hl, wriC, z64]) (vb_one l) ?_
  · rw [vb_get] at hv
    obtain ⟨y, hy, rfl⟩ := Option.map_eq_some_iff.1 hv
    have hj : j < l.length := (List.getElem?_eq_some_iff.1 hy).1
    rw [Addr.add_lit, World.cell?_alloc_lt _ _ _ hg]
    obtain ⟨g2, o2, e2, _, hc⟩ := hb.rd.2 (by omega)
    injection e2 with e2
    injection e2 with e3 e4
    subst e3; subst e4
    exact hc j y hy
  · rw [World.setRow_alloc_new]
    have e : (((wriC (k, z64)).toArray.toList.take 0) ++ (vb l ++ (wriC (k, z64)).toArray.toList.drop (0 + (vb l).length))).toArray = (wriC (k, l)).toArray := by
      rw [vb_length, hl]
      simp [wriC, z64, vb]
    rw [e, vb_length, hl]
    exact h

theorem write_eq (m : DM) (s : Int) (b : List Nat) : m.write s b = if m.up = false then (5, m) else if m.has s = false ∨ b.length ≠ 64 then (2, m) else if m.power = 0 then (5, { m with dead := true }) else (0, { m with power := lessP m.power, waits := m.waits ++ [(s.toNat, b)] }) := rfl
theorem run_one (m : DM) (s : Int) : runE m [s] = if m.up = false then 5 else if m.has s = false then 2 else 0 := by
  unfold runE
  rw [known_one]
/-- The disk with one pending write more. -/
theorem PD.more {w w' : World} {d g : Nat} {pv pv' : Value} {m : DM} (h : PD w d g pv m) (F : Nat → Prop) (k : Mod F w w') (hF : ¬ F g) (x : Nat × List Nat) (hx : x.1 < m.size) (hx2 : Sect x.2)
    (hd : HeadAt w' d (.pointer (some ⟨d, 0, none⟩)) (stOf m) m.power (.slice (some ⟨g, 0, none⟩) m.size m.size) pv') (hp : w'.ownsRow 0 165 65 pv' (m.waits.length + 1) (penC m.waits ++ wriC x)) (hne : ∀ i, pv'.ownBlock = some i → i ≠ d ∧ i ≠ g) : PD w' d g pv' { m with waits := m.waits ++ [x] } := by
  refine ⟨⟨h.ok.meant, h.ok.lost, h.ok.rests, h.ok.means, fun y hy => ?_, h.ok.power⟩, h.n1, h.top, hd, ?_, ?_, h.dg, hne⟩
  · rcases List.mem_append.1 hy with hy | hy
    · exact h.ok.waits y hy
    · simp only [List.mem_singleton] at hy
      subst hy
      exact ⟨hx, hx2⟩
  · obtain ⟨cur, c1, c2, c3⟩ := h.med.mod k hF
    exact ⟨cur, c1, c2, c3⟩
  · show w'.ownsRow 0 _ 65 pv' (m.waits ++ [x]).length (penC (m.waits ++ [x]))
    rw [List.length_append, penC_snoc]
    exact hp

set_option maxRecDepth 100000 in
set_option maxHeartbeats 3200000 in
theorem write_of {w : World} {d g : Nat} {pv : Value} {m : DM} (h : PD w d g pv m) (s : Int) (A : Option Addr) (n c : Nat) (b : List Nat) (hb : By w A n c b) (hoff : Off (fun i => i = d) A) (hfew : m.waits.length ≤ 1000000) :
    Calls Tryz.prog 41 #[.pointer (some ⟨d, 0, none⟩), .int .i64 s, .slice A n c] w fun e w' => ∃ pv', e = .returned (.int .i64 (m.write s b).1) ∧ PD w' d g pv' (m.write s b).2 ∧ (pv'.ownBlock = pv.ownBlock ∨ ∃ i, pv'.ownBlock = some i ∧ w.heap.size ≤ i) ∧ Mod (Fp d g pv) w w' := by
  have hx := (Ext.refl w).alloc (.cells #[.int .i64 s] 3)
  have h1 := h.ext hx
  have hz := ZsAt.one w s 3
  have hk := running_of h1 _ 1 1 [s] hz
  rw [run_one] at hk
  have HX := Lib.hid hx
  have H1 := Lib.hid h1
  have HP := Lib.hid (write_eq m s b)
  have HB := Lib.hid (By.ext hb hx)
  have HN := Lib.hid (Bs.len hb)
  have hnm : n ≤ 9223372036854775807 := Nat.le_trans (Bs.cap hb) (Bs.most hb)
  clear h h1 hx hz hb
  by_cases hu : m.up = false
  · have HP1 := Lib.hid (show m.write s b = _ by rw [HP.out, if_pos hu])
    rw [if_pos hu] at hk
    have HK := Lib.hid hk
    clear hk hu HP
    go_enter Tryz.func41, Tryz.ntmps41
    go_wp2_with fail
    refine HK.out.mono ?_
    rintro e w1 ⟨rfl, rfl⟩
    go_wp2_with fail
    go_ret
    exact ⟨pv, by rw [HP1.out]; rfl, by rw [HP1.out]; exact H1.out, .inl rfl, Mod.of_ext HX.out⟩
  rw [if_neg hu] at hk
  have HP := Lib.hid (show m.write s b = _ by rw [HP.out, if_neg hu])
  have hup : m.up = true := by simpa using hu
  have HUP := Lib.hid hup
  clear hu hup
  by_cases hh : m.has s = false
  · have HP1 := Lib.hid (show m.write s b = _ by rw [HP.out, if_pos (.inl hh)])
    rw [if_pos hh] at hk
    have HK := Lib.hid hk
    clear hk hh HP
    go_enter Tryz.func41, Tryz.ntmps41
    go_wp2_with fail
    refine HK.out.mono ?_
    rintro e w1 ⟨rfl, rfl⟩
    go_wp2_with fail
    go_ret
    exact ⟨pv, by rw [HP1.out]; rfl, by rw [HP1.out]; exact H1.out, .inl rfl, Mod.of_ext HX.out⟩
  rw [if_neg hh] at hk
  have HK := Lib.hid hk
  by_cases hn : n = 64
  · have hhas : m.has s = true := by simpa using hh
    obtain ⟨hs0, hs1⟩ := DM.has_iff.1 hhas
    obtain ⟨k, rfl⟩ := Int.eq_ofNat_of_zero_le hs0
    have hks : k < m.size := by omega
    subst hn
    have HP := Lib.hid (show m.write (k : Int) b = _ by rw [HP.out, if_neg (by rw [HN.out]; intro hc; exact hc.elim hh (fun h => h rfl))])
    rw [Int.toNat_natCast] at HP
    have hdr := draw_of H1.out.headAt H1.out.ok.power H1.out.top
    have HD := Lib.hid hdr
    clear hk hh hhas hdr
    by_cases hp0 : m.power = 0
    · have HP1 := Lib.hid (show m.write (k : Int) b = _ by rw [HP.out, if_pos hp0])
      have HS : Hid (drawE m.power = 5 ∧ drawS m.power (stOf m) = stOf { m with dead := true } ∧ lessP m.power = 0) := Lib.hid ⟨by rw [hp0]; rfl, by
        rw [hp0]
        show (1 : Int) = stOf { m with dead := true }
        unfold stOf
        have hd : m.down = false := by
          have hup := HUP.out
          unfold DM.up at hup
          cases hm : m.down <;> simp_all
        simp [hd], by rw [hp0]; rfl⟩
      have HP0 := Lib.hid hp0
      clear hp0 HP
      go_enter Tryz.func41, Tryz.ntmps41
      go_wp2_with fail
      refine HK.out.mono ?_
      rintro e w1 ⟨rfl, rfl⟩
      go_wp2_with fail
      refine HD.out.mono ?_
      rw [HS.out.1, HS.out.2.1, HS.out.2.2]
      rintro e w2 ⟨rfl, hh, hm⟩
      have HM := Lib.hid hm
      have HH := Lib.hid hh
      clear hh hm
      go_wp2_with fail
      go_ret
      refine ⟨pv, by rw [HP1.out]; rfl, ?_, .inl rfl, (Mod.of_ext HX.out).then (HM.out.mono fun _ hi => .inl hi)⟩
      rw [HP1.out]
      exact H1.out.head_turned HM.out (stOf { m with dead := true }) 0 HH.out _ ⟨H1.out.ok.meant, H1.out.ok.lost, H1.out.ok.rests, H1.out.ok.means, H1.out.ok.waits, H1.out.ok.power⟩ rfl rfl rfl rfl rfl HP0.out (by omega)
    · have HP1 := Lib.hid (show m.write (k : Int) b = _ by rw [HP.out, if_neg hp0])
      have HS : Hid (drawE m.power = 0 ∧ drawS m.power (stOf m) = stOf m) := Lib.hid ⟨if_neg hp0, if_neg hp0⟩
      clear hp0 HP
      go_enter Tryz.func41, Tryz.ntmps41
      go_wp2_with fail
      refine HK.out.mono ?_
      rintro e w1 ⟨rfl, rfl⟩
      go_wp2_with fail
      refine HD.out.mono ?_
      rw [HS.out.1, HS.out.2]
      rintro e w2 ⟨rfl, hh, hm⟩
      have hpd : PD w2 d g pv { m with power := lessP m.power } := H1.out.head_turned hm (stOf m) (lessP m.power) hh { m with power := lessP m.power } ⟨H1.out.ok.meant, H1.out.ok.lost, H1.out.ok.rests, H1.out.ok.means, H1.out.ok.waits, lessP_le H1.out.ok.power⟩ rfl rfl rfl rfl rfl rfl (by
        have := H1.out.top
        unfold lessP
        split <;> omega)
      have H2 := Lib.hid hpd
      have HM := Lib.hid hm
      have hb2 : Hid (By w2 A 64 c b) := Lib.hid (HB.out.mod hm hoff)
      clear hh hm hpd
      have hzv := zv_wri
      go_wp2_with (first
        | (refine wb_wri rfl _ k rfl rfl ?_)
        | (refine ws_wri rfl _ _ rfl (wriC (k, z64)) rfl rfl (wriC_len (by simp [z64])) (wriC_one _) ?_)
        | (refine wl_copy rfl _ _ rfl k b HN.out A c rfl rfl hb2.out ?_))
      simp only [Act.put, goInt, List.setIfInBounds_toArray, List.set_cons_zero, List.set_cons_succ]
      have hE3 := ((Ext.refl w2).alloc (.cells (wriC (k, b)).toArray 165))
      have h3 := H2.out.ext hE3
      have HX3 : Hid (Mod (fun i => i = d) w (w2.alloc (.cells (wriC (k, b)).toArray 165))) := Lib.hid (((Mod.of_ext HX.out).then HM.out).ext hE3)
      have hrn : (w2.alloc (.cells (wriC (k, b)).toArray 165)).rangeAt w2.heap.size 0 (wriC (k, b)) := range_new w2 _ (wriC (k, b)) [] (wriC (k, b)) [] (by simp) 0 rfl
      have hsx : Sect b := ⟨HN.out, hb2.out.rd.lt⟩
      have HSX := Lib.hid hsx
      have hbne : w2.heap.size ≠ d := Nat.ne_of_gt H2.out.lt
      have hlt3 : w2.heap.size < (w2.alloc (.cells (wriC (k, b)).toArray 165)).heap.size := by simp
      have hpn : ∀ i, pv.ownBlock = some i → i ≠ w2.heap.size := fun i hi => Nat.ne_of_lt (H2.out.pen.lt i hi).2
      have HPN := Lib.hid hpn
      have hl65 : (wriC (k, b)).length = 65 := wriC_len hsx.1
      have h1c := wriC_one (k, b)
      have HE3 := Lib.hid hE3
      have H3 := Lib.hid h3
      generalize w2.alloc (.cells (wriC (k, b)).toArray 165) = w3 at *
      obtain ⟨n3, hn3⟩ : ∃ n3, w2.heap.size = n3 := ⟨_, rfl⟩
      rw [hn3] at hrn hbne hlt3
      have HN3 := Lib.hid hn3
      obtain ⟨C, hC⟩ : ∃ C, wriC (k, b) = C := ⟨_, rfl⟩
      rw [hC] at hrn hl65 h1c
      have HC := Lib.hid hC
      obtain ⟨⟨_, _, _, _, c4⟩, _, _, _, _, f4⟩ := h3.cells
      obtain ⟨N, hN, hsz⟩ := size_wri
      have HN65 := Lib.hid hN
      have hag := agg_wri
      have hlen : C.length = N := by rw [hN]; exact hl65
      have hN1 : ¬ 16777216 < N := by omega
      have hN0 : ¬ N = 0 := by omega
      have hld : (loadCellsFrom ⟨n3, 0, none⟩ 0 N #[]).run Tryz.prog w3.drew = .ok C.toArray w3.drew := lcf w3.drew n3 0 N _ hlen hrn
      have hfold : List.foldl (fun (cs : Array Value) (x : Value × Nat) => cs.setIfInBounds x.snd x.fst) (Array.map (fun x => zWri[x % zWri.size]!) (Array.range N)) C.zipIdx = C.toArray := by
        have key : ∀ Z : Array Value, Z.size = N → List.foldl (fun (cs : Array Value) (x : Value × Nat) => cs.setIfInBounds x.snd x.fst) Z C.zipIdx = C.toArray := fun Z hZ => by
          have := fold_put C [] Z.toList [] (by rw [Array.length_toList, hZ, hlen])
          simp only [List.length_nil, List.nil_append, List.append_nil] at this
          exact this
        exact key _ (by simp)
      have hE4 : Ext w3 (w3.alloc (.cells C.toArray 165)).drew := ((Ext.refl w3).alloc _).drew
      have hpen : (w3.alloc (.cells C.toArray 165)).drew.ownsRow 0 165 65 pv m.waits.length (penC m.waits) := (H3.out.ext hE4).pen
      have hcf : ((w3.alloc (.cells C.toArray 165)).drew.cell? ⟨d, 4, none⟩ = some pv) ∧ (w3.alloc (.cells C.toArray 165)).drew.frozen? ⟨d, 4, none⟩ = false := ⟨(H3.out.ext hE4).cells.1.2.2.2.2, (H3.out.ext hE4).cells.2.2.2.2.2⟩
      have hnw : (w3.alloc (.cells C.toArray 165)).drew.heap[w3.heap.size]? = some (.cells C.toArray 165 (0, 0)) := heap_alloc_new w3 _
      have HPEN := Lib.hid hpen
      have HCF := Lib.hid hcf
      have HNW := Lib.hid hnw
      have HE4 := Lib.hid hE4
      have HC65 := Lib.hid hl65
      have h4 := hcf.1
      have hdlt := H3.out.lt
      have hpd := H3.out.pd
      have HPD := Lib.hid hpd
      have HLT : Hid (d < (w3.alloc (.cells C.toArray 165)).drew.heap.size) := Lib.hid (Nat.lt_of_lt_of_le hdlt hE4.size)
      clear h3 hE3 hC hN hsx hpn hl65 hcf hnw hpen hE4 hpd hdlt
      rw [hn3]
      clear hn3
      go_region_law (first
        | (refine step_append_lies _ rfl _ _ 100 rfl 0 165 (Classical.choose (info_parts wri_info3)) (.agg zWri) 65 72 Tryz.underlying100 (Classical.choose_spec (info_parts wri_info3)).1 (Classical.choose_spec (info_parts wri_info3)).2.1 (Classical.choose_spec (info_parts wri_info3)).2.2.1 (Classical.choose_spec (info_parts wri_info3)).2.2.2 zWri_size (by decide) pv m.waits.length (penC m.waits) rfl HPEN.out ⟨w3.heap.size, 0, none⟩ 1 1 C rfl (by rw [HC65.out]) (fun j u hu => World.news_of_block HNW.out j u hu) h1c (by omega) (by unfold maxLen; omega) (by omega) (Nat.zero_le _) (w3.heap.size + 1) (by simp) ?_; intro bk cap w4 hown hgrow hat hlt; have hc4 := (World.grownBy.cell_far hgrow ⟨d, 4, none⟩ HLT.out (fun e => (HPD.out d e.symm).1 rfl)).trans HCF.out.1; have hf4 := (World.grownBy.frozen_far hgrow ⟨d, 4, none⟩ HLT.out (fun e => (HPD.out d e.symm).1 rfl)).trans HCF.out.2; have HOWN := Lib.hid hown; have HGR := Lib.hid hgrow; have HAT := Lib.hid hat; clear hown hgrow hat hlt))
      all_goals
        clear hld hfold h4 hsz hag hlen hN1 hN0
        go_wp2_with fail
        go_ret
        have hbk : bk ≠ d ∧ bk ≠ g := HAT.out.elim (fun e => HPD.out bk e) fun e => by
          have h1 := H3.out.lt
          have h2 := H3.out.glt
          omega
        have hg0 : ∀ i, pv.ownBlock = some i → i ≠ d ∧ i ≠ g := HPD.out
        have m34 : Mod (fun i => i = d ∨ pv.ownBlock = some i) w3 (w4.setCell ⟨d, 4, none⟩ (.slice (some ⟨bk, 0, none⟩) (m.waits.length + 1) cap)) :=
          ((Mod.of_ext HE4.out).grown HGR.out fun i hi => .inl (.inr hi)).setCell (p := ⟨d, 4, none⟩) (.inl (.inl rfl)) _
        have m03 : Mod (Fp d g pv) w w3 := HX3.out.mono fun _ hi => .inl hi
        have hC := HC.out
        subst hC
        refine ⟨by rw [HP1.out]; rfl, .slice (some ⟨bk, 0, none⟩) (m.waits.length + 1) cap, ?_, ?_, m03.trans m34 fun i hi => .inl (hi.elim (fun h => .inl h) fun h => .inr (.inr h))⟩
        · rw [HP1.out]
          have hh4 : w4.heap[d]? = some (.cells #[.pointer (some ⟨d, 0, none⟩), .int .u8 (stOf m), .int .i64 (lessP m.power), .slice (some ⟨g, 0, none⟩) m.size m.size, pv] 102 (0, 0)) :=
            (HGR.out.block d HLT.out (fun e => (hg0 d e.symm).1 rfl)).trans (H3.out.ext HE4.out).head
          refine H3.out.more (fun i => i = d ∨ pv.ownBlock = some i) m34 (fun h => h.elim (fun e => H3.out.dg e.symm) fun e => (hg0 g e).2 rfl) (k, b) hks HSX.out (row_set 4 hh4 _ rfl) ?_ ?_
          · exact own_mod (F := fun i => i = d) HOWN.out ((Mod.refl _ _).own_cell _ _) fun i hi => by
              injection hi with hi
              subst hi
              exact hbk.1
          · intro i hi
            injection hi with hi
            subst hi
            exact hbk
        · rcases HAT.out with e | e
          · exact .inl e.symm
          · refine .inr ⟨bk, rfl, ?_⟩
            have := m03.size
            omega
  · have HP1 := Lib.hid (show m.write s b = _ by rw [HP.out, if_pos (.inr (by rw [HN.out]; exact hn))])
    have hne : ((n : Int) != 64) = true := by rw [bne_iff_ne]; omega
    clear hk hh HP
    go_enter Tryz.func41, Tryz.ntmps41
    go_wp2_with fail
    refine HK.out.mono ?_
    rintro e w1 ⟨rfl, rfl⟩
    go_wp2_with fail
    go_ret
    exact ⟨pv, by rw [HP1.out]; rfl, by rw [HP1.out]; exact H1.out, .inl rfl, Mod.of_ext HX.out⟩
end Go.Proofs.YtlikhmhomkiadaaGreatDoor

namespace Go.Proofs.YtlikhmhomkiadaaGreatDoor
set_option maxRecDepth 100000
open Go Go.RowKit

theorem vb_set (l : List Nat) (k x : Nat) : (vb l).set k (.int .u8 (x : Int)) = vb (l.set k x) := by
  unfold vb
  rw [List.map_set]
/-- A bit of a byte turned about, as the walk writes it. -/
theorem turn_u8 (y m : Nat) (hy : y < 256) (hm : m < 8) : bits .xor .u8 (y : Int) ((2 : Int) ^ m % 256) = ((y ^^^ 2 ^ m : Nat) : Int) := by
  have hpw : 2 ^ m < 256 := by
    have : 2 ^ m < 2 ^ 8 := Nat.pow_lt_pow_right (by omega) hm
    omega
  have e : (2 : Int) ^ m % 256 = ((2 ^ m : Nat) : Int) := by
    rw [Int.natCast_pow]
    refine Int.emod_eq_of_lt (Int.pow_nonneg (by omega)) ?_
    have : ((2 ^ m : Nat) : Int) < 256 := by omega
    rw [Int.natCast_pow] at this
    exact this
  rw [e]
  exact u8_xor_nat y (2 ^ m) hy hpw
end Go.Proofs.YtlikhmhomkiadaaGreatDoor

namespace Go.Proofs.YtlikhmhomkiadaaGreatDoor
set_option maxRecDepth 100000
open Go Go.RowKit

set_option maxRecDepth 100000 in
set_option maxHeartbeats 1600000 in
theorem flipped_of (l : List Nat) (p : Nat) (hp : p < 512) (hl : Sect l) (w : World) :
    Calls Tryz.prog 133 #[.agg (vb l).toArray, .int .i64 (p : Int)] w fun e w' => e = .returned (.agg (vb (flipB l p)).toArray) ∧ Ext w w' := by
  obtain ⟨q, hqe⟩ : ∃ q, p / 8 = q := ⟨_, rfl⟩
  obtain ⟨r, hre⟩ : ∃ r, p % 8 = r := ⟨_, rfl⟩
  obtain ⟨y, hy⟩ : ∃ y, l[q]? = some y := ⟨_, List.getElem?_eq_getElem (by rw [hl.1]; omega)⟩
  have hy2 : y < 256 := hl.2 y (List.mem_of_getElem? hy)
  have hm8 : r < 8 := by omega
  have hx8 := turn_u8 y r hy2 hm8
  have HS : Hid ((vb l).toArray.setIfInBounds q (.int .u8 ((y ^^^ 2 ^ r : Nat) : Int)) = (vb (flipB l p)).toArray) := Lib.hid (by
    rw [flipB_set (by rw [hqe]; exact hy), ← vb_set, hqe, hre]
    simp)
  have HLN : Hid ((flipB l p).length = 64) := Lib.hid (by rw [flipB_length]; exact hl.1)
  have hq : IntKind.i64.wrap ((p : Int) / 8) = (q : Int) := by rw [IntWalk.i64_in _ (by omega)]; omega
  have hrm : (p : Int).tmod 8 = (r : Int) := by rw [Int.tmod_eq_emod_of_nonneg (by omega)]; omega
  have hb0 : (0 : Int) ≤ (q : Int) := by omega
  have hb1 : (q : Int) < 64 := by omega
  have hm0 : (0 : Int) ≤ (r : Int) := by omega
  have hzv := zv_con
  have hr0 : (w.alloc (.cells (vb l).toArray 148)).heap[w.heap.size]? = some (.cells (vb l).toArray 148 (0, 0)) := heap_alloc_new w _
  have hr : ((w.alloc (.cells (vb l).toArray 148)).alloc (.cells zCon 148)).drew.heap[w.heap.size]? = some (.cells (vb l).toArray 148 (0, 0)) := (Below.heap_alloc _ _ _ (by simp)).trans hr0
  have hz0 : ((w.alloc (.cells (vb l).toArray 148)).alloc (.cells zCon 148)).heap[w.heap.size + 1]? = some (.cells zCon 148 (0, 0)) := by
    have := heap_alloc_new (w.alloc (.cells (vb l).toArray 148)) (.cells zCon 148)
    rwa [World.size_alloc] at this
  have hE := (((Ext.refl w).alloc (.cells (vb l).toArray 148)).alloc (.cells zCon 148)).drew
  have hc : ((w.alloc (.cells (vb l).toArray 148)).alloc (.cells zCon 148)).drew.cell? ⟨w.heap.size, q, none⟩ = some (.int .u8 (y : Int)) := by
    rw [cell_of_row _ _ _ _ _ _ hr, List.getElem?_toArray, vb_get, hy]
    rfl
  have hf : ((w.alloc (.cells (vb l).toArray 148)).alloc (.cells zCon 148)).drew.frozen? ⟨w.heap.size, q, none⟩ = false := frozen_of_row _ _ _ _ _ hr
  have hz : ((w.alloc (.cells (vb l).toArray 148)).alloc (.cells zCon 148)).drew.heap[w.heap.size + 1]? = some (.cells zCon 148 (0, 0)) := hz0
  have HR := Lib.hid hr
  have HZ := Lib.hid hz
  have HE := Lib.hid hE
  clear hr hz hE hr0 hz0 hy hqe hre
  go_enter Tryz.func133, Tryz.ntmps133
  go_wp2_with fail
  refine still_tail 9 (by kernel_rfl) (by kernel_rfl) ?_
  simp only [List.take_succ_cons, List.take_zero, List.drop_succ_cons, List.drop_zero]
  generalize ((w.alloc (.cells (vb l).toArray 148)).alloc (.cells zCon 148)).drew = w2 at *
  still_step
  still_step
  still_step
  still_step
  still_step
  still_step
  still_step
  still_step
  still_step
  refine wpStill_nil ?_
  have hs := row_set q HR.out (.int .u8 ((y ^^^ 2 ^ r : Nat) : Int)) HS.out
  have hz2 := heap_set (k := q) (x := .int .u8 ((y ^^^ 2 ^ r : Nat) : Int)) (show w.heap.size + 1 ≠ w.heap.size by omega) HZ.out
  have he2 := Below.setCell HE.out (p := ⟨w.heap.size, q, none⟩) (Nat.le_refl _) (.int .u8 ((y ^^^ 2 ^ r : Nat) : Int))
  have HS2 := Lib.hid hs
  have HZ2 := Lib.hid hz2
  have HE2 := Lib.hid he2
  have HRN : Hid ((w2.setCell ⟨w.heap.size, q, none⟩ (.int .u8 ((y ^^^ 2 ^ r : Nat) : Int))).rangeAt w.heap.size 0 (vb (flipB l p))) := Lib.hid (by
    have := World.rangeAt_of_block hs 0 64
    rwa [show ((vb (flipB l p)).toArray.extract 0 (0 + 64)).toList = vb (flipB l p) by simp [List.take_of_length_le, vb_length, HLN.out]] at this)
  have HTH : Hid ((w2.setCell ⟨w.heap.size, q, none⟩ (.int .u8 ((y ^^^ 2 ^ r : Nat) : Int))).there (w.heap.size + 1) 0 (vb (flipB l p)).toArray.size) := Lib.hid (there_of hz2 0 _ (by rw [List.size_toArray, vb_length, HLN.out, zCon_size]; omega))
  have HSZ : Hid ((Tryz.prog.info? 148).map (·.size) = some (vb (flipB l p)).toArray.size) := Lib.hid (by rw [sz_con, List.size_toArray, vb_length, HLN.out])
  clear hs hz2 he2
  go_wp2_with (first
    | (rw [hx8]; refine wl_con rfl _ rfl w.heap.size 0 rfl (vb (flipB l p)) HRN.out (by rw [vb_length]; exact HLN.out) ?_)
    | (refine wpList_store_mid rfl 148 _ _ rfl (w.heap.size + 1) 0 (vb (flipB l p)).toArray rfl rfl HTH.out HSZ.out (all_oneCell_toArray (vb_one _)) ?_))
  obtain ⟨cs', h1, h2, h3, _⟩ := heap_setCells (vb (flipB l p)) 0 HZ2.out (by rw [vb_length, HLN.out, zCon_size]; omega)
  have hcs : cs' = (vb (flipB l p)).toArray := by
    apply Array.ext_getElem?
    intro i
    by_cases hi : i < 64
    · obtain ⟨v, hv⟩ : ∃ v, (vb (flipB l p))[i]? = some v := ⟨_, List.getElem?_eq_getElem (by rw [vb_length, HLN.out]; exact hi)⟩
      have e2 : (vb (flipB l p)).toArray[i]? = some v := by rw [List.getElem?_toArray]; exact hv
      have e3 := h3 i v hv
      rw [Nat.zero_add] at e3
      rw [e2, e3]
    · rw [Array.getElem?_eq_none (by rw [h2, zCon_size]; omega), Array.getElem?_eq_none (by rw [List.size_toArray, vb_length, HLN.out]; omega)]
  subst hcs
  refine bodyPost_ret (results_cell_row rfl _ _ (w.heap.size + 1) _ _ _ _ rfl h1 Tryz.underlying148 rfl HSZ.out) rfl ?_
  exact ⟨rfl, (Mod.of_ext (F := fun i => i = w.heap.size + 1) HE2.out).then (mod_setCells _ _ _ _) |>.to_ext fun i hi => by omega⟩

theorem flip_eq (m : DM) (s b : Int) : m.flip s b = if m.has s = false ∨ b < 0 then (2, m) else (0, { m with rest := m.rest.set s.toNat (flipB (m.rest.getD s.toNat []) (b.toNat % 512)) }) := rfl
set_option maxRecDepth 100000 in
set_option maxHeartbeats 1600000 in
theorem flip_of {w : World} {d g : Nat} {pv : Value} {m : DM} (h : PD w d g pv m) (s b : Int) (hb63 : b ≤ 9223372036854775807) :
    Calls Tryz.prog 88 #[.pointer (some ⟨d, 0, none⟩), .int .i64 s, .int .i64 b] w fun e w' => e = .returned (.int .i64 (m.flip s b).1) ∧ PD w' d g pv (m.flip s b).2 ∧ Mod (fun i => i = g) w w' := by
  have hx := (Ext.refl w).alloc (.cells #[.int .i64 s] 3)
  have h1 := h.ext hx
  have hz := ZsAt.one w s 3
  have hk := known_of h1 _ 1 1 [s] hz
  rw [known_one] at hk
  have HX := Lib.hid hx
  have H1 := Lib.hid h1
  have HP := Lib.hid (flip_eq m s b)
  have HO := Lib.hid (DM.flip_ok h.ok s b)
  clear h h1 hx hz
  by_cases hh : m.has s = false
  · have HP1 : Hid (m.flip s b = (2, m)) := Lib.hid (by rw [HP.out, if_pos (.inl hh)])
    rw [if_pos hh] at hk
    have HK := Lib.hid hk
    clear hk hh HP
    go_enter Tryz.func88, Tryz.ntmps88
    go_wp2_with fail
    refine HK.out.mono ?_
    rintro e w1 ⟨rfl, rfl⟩
    go_wp2_with fail
    go_ret
    exact ⟨by rw [HP1.out]; rfl, by rw [HP1.out]; exact H1.out, Mod.of_ext HX.out⟩
  · rw [if_neg hh] at hk
    have HK := Lib.hid hk
    by_cases hb : b < 0
    · have HP1 : Hid (m.flip s b = (2, m)) := Lib.hid (by rw [HP.out, if_pos (.inr hb)])
      clear hk hh HP
      go_enter Tryz.func88, Tryz.ntmps88
      go_wp2_with fail
      refine HK.out.mono ?_
      rintro e w1 ⟨rfl, rfl⟩
      go_wp2_with fail
      go_ret
      exact ⟨by rw [HP1.out]; rfl, by rw [HP1.out]; exact H1.out, Mod.of_ext HX.out⟩
    · obtain ⟨b, rfl⟩ := Int.eq_ofNat_of_zero_le (show 0 ≤ b by omega)
      have HP1 : Hid (m.flip s (b : Int) = (0, { m with rest := m.rest.set s.toNat (flipB (m.rest.getD s.toNat []) (b % 512)) })) := Lib.hid (by rw [HP.out, if_neg (by intro hc; exact hc.elim hh hb)]; rw [Int.toNat_natCast])
      have hhas : m.has s = true := by simpa using hh
      obtain ⟨hs0, hs1⟩ := DM.has_iff.1 hhas
      obtain ⟨k, rfl⟩ := Int.eq_ofNat_of_zero_le hs0
      have hks : k < m.size := by omega
      rw [Int.toNat_natCast] at HP1
      obtain ⟨q, hq⟩ : ∃ q, b % 512 = q := ⟨_, rfl⟩
      have hq512 : q < 512 := by omega
      rw [hq] at HP1
      have hrm : (b : Int).tmod 512 = (q : Int) := by rw [Int.tmod_eq_emod_of_nonneg (by omega)]; omega
      clear hk hh hhas HP hq
      have hfl := flipped_of (m.rest.getD k []) q hq512 (H1.out.ok.rest_at hks)
      have HFL := Lib.hid hfl
      clear hfl
      go_enter Tryz.func88, Tryz.ntmps88
      go_wp2_with fail
      refine HK.out.mono ?_
      rintro e w1 ⟨rfl, rfl⟩
      obtain ⟨⟨c0, c1, c2, c3, c4⟩, f0, f1, f2, f3, f4⟩ := H1.out.cells
      have hr := H1.out.med.range hks
      have hm : (w.alloc (.cells #[.int .i64 (k : Int)] 3)).rangeAt g (k * 129) (vb (m.rest.getD k [])) := fun j v hv => by
        have hj : j < (vb (m.rest.getD k [])).length := (List.getElem?_eq_some_iff.1 hv).1
        refine hr j v ?_
        rw [sec_cut, List.getElem?_append_left hj]
        exact hv
      have HR := Lib.hid hm
      have HSR := Lib.hid (H1.out.ok.rest_at hks)
      generalize w.alloc (.cells #[.int .i64 (k : Int)] 3) = w1 at *
      clear hr hm f0 f1 f2 f3 f4 c0 c1 c2 c4
      go_wp2_with (first
        | (refine wl_con rfl _ rfl g (k * 129) rfl _ HR.out (by rw [vb_length]; exact HSR.out.1) ?_))
      refine (HFL.out _).mono ?_
      rintro e w2 ⟨rfl, hx2⟩
      have HX2 := Lib.hid (HX.out.trans hx2)
      have H2 := Lib.hid (H1.out.ext hx2)
      obtain ⟨cur, hg, hsz, hcur⟩ := H2.out.med
      have hle : (k + 1) * 129 ≤ m.size * 129 := Nat.mul_le_mul_right _ hks
      have hln : (flipB (m.rest.getD k []) q).length = 64 := by rw [flipB_length]; exact HSR.out.1
      have HLN := Lib.hid hln
      have HTH : Hid (w2.there g (k * 129) (vb (flipB (m.rest.getD k []) q)).toArray.size) := Lib.hid (there_of hg _ _ (by rw [List.size_toArray, vb_length, hln, hsz]; omega))
      have HSZ : Hid ((Tryz.prog.info? 148).map (·.size) = some (vb (flipB (m.rest.getD k []) q)).toArray.size) := Lib.hid (by rw [sz_con, List.size_toArray, vb_length, hln])
      clear hx2 hg hsz hcur hle hln
      go_wp2_with (refine wpList_store_mid rfl 148 _ _ rfl g (k * 129) (vb (flipB (m.rest.getD k []) q)).toArray rfl rfl HTH.out HSZ.out (all_oneCell_toArray (vb_one _)) ?_)
      go_ret
      have hm2 : Mod (fun i => i = g) w2 (w2.setCells g (k * 129) (vb (flipB (m.rest.getD k []) q))) := mod_setCells _ _ _ _
      have hml := (H2.out.ok.meant_at hks).1
      have hrl := HSR.out.1
      refine ⟨by rw [HP1.out]; rfl, ?_, (Mod.of_ext HX2.out).then hm2⟩
      have hO := HO.out
      rw [HP1.out] at hO ⊢
      have hsec : ∀ i, ({ m with rest := m.rest.set k (flipB (m.rest.getD k []) q) } : DM).sec i = if i = k then secC (flipB (m.rest.getD k []) q) (m.meant.getD k []) (m.lost.getD k false) else m.sec i := fun i => by
        unfold DM.sec
        by_cases e : k = i
        · subst e
          rw [if_pos rfl]
          simp only
          rw [getD_set (show k < m.rest.length from hks), if_pos rfl]
        · rw [if_neg fun h => e h.symm]
          simp only
          rw [getD_set_ne e]
      have hsz' : ({ m with rest := m.rest.set k (flipB (m.rest.getD k []) q) } : DM).size = m.size := by simp [DM.size]
      refine H2.out.sec_turned hm2 _ hO hsz' ?_ rfl rfl rfl rfl
      refine H2.out.med.set (m' := { m with rest := m.rest.set k (flipB (m.rest.getD k []) q) }) hks 0 (vb (flipB (m.rest.getD k []) q)) hsz' (by rw [vb_length, HLN.out]; omega) (fun i hi hne => by rw [hsec, if_neg hne]) (fun i hi => by
        rw [hsec]
        split
        · exact secC_len HLN.out hml
        · exact H2.out.ok.sec_len hi) (fun j v hv => ?_)
      rw [hsec, if_pos rfl] at hv
      rcases secC_get HLN.out hml j v hv with ⟨a1, a2⟩ | ⟨a1, a2, a3⟩ | ⟨rfl, rfl⟩
      · rw [if_pos ⟨by omega, by rw [vb_length, HLN.out]; omega⟩]
        exact a2
      · rw [if_neg (by rw [vb_length, HLN.out]; omega)]
        exact secC_mk hrl hml j v (.inr (.inl ⟨a1, a2, a3⟩))
      · rw [if_neg (by rw [vb_length, HLN.out]; omega)]
        exact secC_mk hrl hml 128 _ (.inr (.inr ⟨rfl, rfl⟩))
end Go.Proofs.YtlikhmhomkiadaaGreatDoor

namespace Go.Proofs.YtlikhmhomkiadaaGreatDoor
set_option maxRecDepth 100000
open Go Go.RowKit

theorem Vs.mod {w w' : World} {B : Nat} {A : Option Addr} {n c : Nat} {vs : List Value} {F : Nat → Prop} (h : Vs w B A n c vs) (k : Mod F w w') (hB : B ≤ w.heap.size) (ho : 0 < n → Off F A) : Vs w' B A n c vs :=
  ⟨h.len, h.cap, h.most, fun hn => by
    obtain ⟨g, o, e, hg, hc⟩ := h.rd hn
    refine ⟨g, o, e, hg, fun j v hv => ?_⟩
    rw [← hc j v hv]
    exact World.cell?_of_block (a := ⟨g, o + j, none⟩) (k.block g (by omega) (ho hn _ e)), h.nil_⟩
theorem kept_step {l : List (Nat × List Nat)} {j : Nat} {x : Nat × List Nat} (h : l[j]? = some x) (k : List Bool) : kept (l.take (j + 1)) k = if k[j]? = some true then kept (l.take j) k ++ [x] else kept (l.take j) k := by
  have hj : j < l.length := (List.getElem?_eq_some_iff.1 h).1
  rw [take_snoc h, kept_snoc, List.length_take, Nat.min_eq_left (by omega)]

set_option maxRecDepth 100000 in
set_option maxHeartbeats 3200000 in
theorem crash_of {w : World} {d g : Nat} {pv : Value} {m : DM} (h : PD w d g pv m) (kA : Option Addr) (kn kc : Nat) (kl : List Bool) (hkeep : Vs w w.heap.size kA kn kc (kl.map .bool)) (hoff : 0 < kn → Off (Fdg d g) kA) :
    Calls Tryz.prog 86 #[.pointer (some ⟨d, 0, none⟩), .slice kA kn kc] w fun e w' => ∃ pv', e = .returned (.int .i64 (m.crash kl).1) ∧ PD w' d g pv' (m.crash kl).2 ∧ (pv' = pv ∨ pv' = .slice none 0 0) ∧ Mod (Fdg d g) w w' := by
  have H := Lib.hid h
  have HP : Hid (m.crash kl = if m.down = true then (5, m) else (0, { m.comes (kept m.waits kl) with waits := [], down := true })) := Lib.hid rfl
  have HO := Lib.hid (DM.crash_ok h.ok kl)
  have HKP := Lib.hid hkeep
  have HOFF := Lib.hid hoff
  have hkm : kn ≤ 9223372036854775807 := Nat.le_trans hkeep.cap hkeep.most
  obtain ⟨⟨c0, c1, c2, c3, c4⟩, f0, f1, f2, f3, f4⟩ := h.cells
  clear hkeep hoff f0 f1 f2 f3 f4 c2 c3
  by_cases hd : m.down = true
  · have HP1 : Hid (m.crash kl = (5, m)) := Lib.hid (by rw [HP.out, if_pos hd])
    rw [stOf_down.2 hd] at c1
    clear hd HP h
    go_enter Tryz.func86, Tryz.ntmps86
    go_wp2_with fail
    refine (made_yes d _ c0).mono ?_
    rintro e w1 ⟨rfl, rfl⟩
    go_wp2_with fail
    go_ret
    exact ⟨pv, by rw [HP1.out]; rfl, by rw [HP1.out]; exact H.out, .inl rfl, Mod.refl _ _⟩
  · have HP1 : Hid (m.crash kl = (0, { m.comes (kept m.waits kl) with waits := [], down := true })) := Lib.hid (by rw [HP.out, if_neg hd])
    have hst : (stOf m == 2) = false := by
      have : ¬ stOf m = 2 := fun e => hd (stOf_down.1 e)
      simpa using this
    obtain ⟨A, c, hpv, hcap, hmost⟩ := h.pv_form
    obtain ⟨k, hk⟩ : ∃ k, m.waits.length = k := ⟨_, rfl⟩
    have HK := Lib.hid hk
    rw [hk] at hpv hcap
    subst hpv
    clear hd HP h hk
    generalize hs : stOf m = st at *
    clear hs
    go_enter Tryz.func86, Tryz.ntmps86
    go_wp2_with fail
    refine (made_yes d _ c0).mono ?_
    rintro e w1 ⟨rfl, rfl⟩
    go_wp2_with fail
    clear c0 c1 c4
    go_loopw [22] (fun i wr => ∃ j : Nat, j ≤ k ∧ i = .int .i64 j ∧ PD wr d g (.slice A k c) (m.comes (kept (m.waits.take j) kl)) ∧ Mod (Fdg d g) w wr) (fun i _ => k - (intOf i).toNat)
    case atStart => exact ⟨0, Nat.zero_le _, rfl, by rw [show kept (m.waits.take 0) kl = [] by simp [kept]]; exact H.out, Mod.refl _ _⟩
    case round =>
      obtain ⟨j, hj, rfl, hpd, hmod⟩ := hrel
      have HPD := Lib.hid hpd
      have HMD := Lib.hid hmod
      clear hpd hmod
      by_cases hlt : j < k
      · obtain ⟨x, hx⟩ : ∃ x, m.waits[j]? = some x := ⟨_, List.getElem?_eq_getElem (by rw [HK.out]; exact hlt)⟩
        have hcw := DM.comes_waits (kept (m.waits.take j) kl) m
        have hx2 : (m.comes (kept (m.waits.take j) kl)).waits[j]? = some x := by rw [hcw.1]; exact hx
        obtain ⟨b, c', hpv, hrange⟩ := HPD.out.pen_at hx2
        injection hpv with hA hB hC
        subst hA
        clear hB hC
        have hxm := HPD.out.ok.waits x (List.mem_of_getElem? hx2)
        have HX := Lib.hid hx
        have HXM := Lib.hid hxm
        have HRG := Lib.hid hrange
        have HL65 : Hid ((wriC x).length = 65) := Lib.hid (wriC_len hxm.2.1)
        have hzv := zv_wri
        have HRN : Hid ((wr.alloc (.cells (wriC x).toArray 165)).rangeAt wr.heap.size 0 (wriC x)) := Lib.hid (range_new wr _ (wriC x) [] (wriC x) [] (by simp) 0 rfl)
        have hE := (Ext.refl wr).alloc (.cells (wriC x).toArray 165)
        have HEX := Lib.hid hE
        have HKS := Lib.hid (kept_step hx kl)
        clear hcw hx hx2 hrange hxm hE
        have HVS : Hid (Vs (wr.alloc (.cells (wriC x).toArray 165)) w.heap.size kA kn kc (kl.map .bool)) := Lib.hid ((HKP.out.mod HMD.out (Nat.le_refl _) HOFF.out).mod (F := fun _ => False) (Mod.of_ext HEX.out) HMD.out.size fun _ _ _ h => h)
        by_cases hkj : j < kn
        · obtain ⟨kg, ko, rfl, _, hc⟩ := HVS.out.rd (by omega)
          obtain ⟨bb, hbb⟩ : ∃ bb, kl[j]? = some bb := ⟨_, List.getElem?_eq_getElem (by have := HVS.out.len; rw [List.length_map] at this; omega)⟩
          have hcell := hc j (.bool bb) (by rw [List.getElem?_map, hbb]; rfl)
          have HBB := Lib.hid hbb
          clear hc hbb
          cases bb with
          | true =>
            have HKS1 : Hid (kept (m.waits.take (j + 1)) kl = kept (m.waits.take j) kl ++ [x]) := Lib.hid (by rw [HKS.out, if_pos HBB.out])
            clear HKS
            go_wp2_with (first
              | (refine wl_wri rfl _ rfl b (j * 65) rfl (wriC x) HRG.out HL65.out ?_)
              | (refine ws_wri rfl _ _ rfl (wriC x) rfl rfl HL65.out (wriC_one x) ?_)
              | (refine wl_wri rfl _ rfl wr.heap.size 0 rfl (wriC x) HRN.out HL65.out ?_))
            refine (carry_of (HPD.out.ext HEX.out) x HXM.out.1 HXM.out.2).mono ?_
            rintro e w3 ⟨⟨v, rfl⟩, hp3, hm3⟩
            have HP3 := Lib.hid hp3
            have HM3 := Lib.hid ((HMD.out.ext HEX.out).then (Fdg.of_g hm3))
            clear hp3 hm3 hcell
            go_wp2_with fail
            go_roundw
            case rel => exact ⟨j + 1, by omega, by go_num, by rw [HKS1.out, comes_snoc]; exact HP3.out, HM3.out⟩
            case measure => simp [intOf]; omega
          | false =>
            have HKS1 : Hid (kept (m.waits.take (j + 1)) kl = kept (m.waits.take j) kl) := Lib.hid (by rw [HKS.out, if_neg (by rw [HBB.out]; simp)])
            clear HKS
            go_wp2_with (first
              | (refine wl_wri rfl _ rfl b (j * 65) rfl (wriC x) HRG.out HL65.out ?_)
              | (refine ws_wri rfl _ _ rfl (wriC x) rfl rfl HL65.out (wriC_one x) ?_))
            go_roundw
            case rel => exact ⟨j + 1, by omega, by go_num, by rw [HKS1.out]; exact HPD.out.ext HEX.out, HMD.out.ext HEX.out⟩
            case measure => simp [intOf]; omega
        · have HKS1 : Hid (kept (m.waits.take (j + 1)) kl = kept (m.waits.take j) kl) := Lib.hid (by
            rw [HKS.out, if_neg]
            rw [List.getElem?_eq_none (by have := HVS.out.len; rw [List.length_map] at this; omega)]
            simp)
          clear HKS
          go_wp2_with (first
            | (refine wl_wri rfl _ rfl b (j * 65) rfl (wriC x) HRG.out HL65.out ?_)
            | (refine ws_wri rfl _ _ rfl (wriC x) rfl rfl HL65.out (wriC_one x) ?_))
          go_roundw
          case rel => exact ⟨j + 1, by omega, by go_num, by rw [HKS1.out]; exact HPD.out.ext HEX.out, HMD.out.ext HEX.out⟩
          case measure => simp [intOf]; omega
      · have HTK : Hid (m.waits.take j = m.waits) := Lib.hid (List.take_of_length_le (by rw [HK.out]; omega))
        obtain ⟨⟨c0, c1, c2, c3, c4⟩, f0, f1, f2, f3, f4⟩ := HPD.out.cells
        clear c0 c2 c3 f0 f2 f3
        go_wp2_with fail
        go_ret
        have hpd := HPD.out
        rw [HTK.out] at hpd
        have hm4 : Mod (fun i => i = d) wr ((wr.setCell ⟨d, 4, none⟩ (.slice none 0 0)).setCell ⟨d, 1, none⟩ (.int .u8 2)) := ((Mod.refl _ _).own_cell _ _).own_cell _ _
        refine ⟨.slice none 0 0, by rw [HP1.out]; rfl, ?_, .inr rfl, HMD.out.then (Fdg.of_d hm4)⟩
        refine hpd.cleared hm4 _ ?_ HO.out (by rw [HP1.out]) (by rw [HP1.out]) (by rw [HP1.out]) (by rw [HP1.out]) (by rw [HP1.out])
        rw [HP1.out]
        exact row_set 1 (row_set 4 hpd.head _ rfl) _ rfl
end Go.Proofs.YtlikhmhomkiadaaGreatDoor
