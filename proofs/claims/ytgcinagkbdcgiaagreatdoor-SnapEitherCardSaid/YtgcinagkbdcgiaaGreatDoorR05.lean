/-
  The contract of the disk's Write.
-/
import Derived.Test.YtgcinagkbdcgiaaGreatDoorR00
import Derived.Test.YtgcinagkbdcgiaaGreatDoorR01
import Derived.Test.YtgcinagkbdcgiaaGreatDoorR03
import Derived.Test.YtgcinagkbdcgiaaGreatDoorR04
import Derived.Laws.CopyOwn
import Derived.Deep.AppendLies
import Derived.Lib.SmallJoins
import Derived.Laws.BitsAllLaws
import Derived.Tactics
namespace Go.Proofs.YtgcinagkbdcgiaaGreatDoor
set_option maxRecDepth 100000
section
open Go Go.RowKit
theorem wri_info3 : (Tryz.prog.info? 191).map (fun i => (i.zero, i.size, i.bytes)) = some (some (.agg zWri), 65, 72) := by kernel_rfl
theorem wri_built (k : Nat) : ∀ w, (Instr.build 191 #[(1, .int .i64 (k : Int))]).run Tryz.prog w = .ok (.agg (wriC (k, z64)).toArray) w := fun w => run_build w _ _ _ (by kernel_rfl)
theorem wb_wri {ops : Array Oper} {rest : List Oper} {o : Oper} {a : Act} {w : World} {Q : Exit → Act → World → Prop} (hgd : o.guard = none) (x : Operand) (k : Nat) (ho : o.op = .build 191 #[(1, x)]) (hx : a.eval x = .int .i64 (k : Int))
    (h : wpList Tryz.prog ops Q rest (a.put o.dst (.agg (wriC (k, z64)).toArray)) w) : wpList Tryz.prog ops Q (o :: rest) a w :=
  wpList_plain hgd fun _ hK => by
    unfold Oper.wp execOp
    have hb := wri_built k w
    simp only [ho, List.map_toArray, List.map_cons, List.map_nil, hx, Sem.run_bind, hb, Result.andThen_ok, Sem.run_pure]
    exact hK _ _ h
theorem wl_copy {ops : Array Oper} {rest : List Oper} {o : Oper} {a : Act} {w : World} {Q : Exit → Act → World → Prop} (hgd : o.guard = none) (d s : Operand) (ho : o.op = .call { callee := .builtin .copy, args := #[d, s], argTypes := #[45, 45] })
    (k : Nat) (l : List Nat) (hl : l.length = 64) (A : Option Addr) (c : Nat) (hd : a.eval d = .slice (some ⟨w.heap.size, 0, none⟩) 64 64) (hs : a.eval s = .slice A 64 c) (hb : By w A 64 c l)
    (h : wpList Tryz.prog ops Q rest (a.put o.dst (goInt 64)) (w.alloc (.cells (wriC (k, l)).toArray 191))) : wpList Tryz.prog ops Q (o :: rest) a (w.alloc (.cells (wriC (k, z64)).toArray 191)) := by
  obtain ⟨g, o', x, rfl, hg, _⟩ := hb.rd.at_ (k := 0) (by omega)
  have hu : Tryz.prog.underlying 45 = some (.slice 5) := Tryz.underlying45
  have hsz : (Tryz.prog.info? 5).map (·.size) = some 1 := by kernel_rfl
  refine wpList_copy_own hgd d s 45 45 ho 5 hu hsz w.heap.size 0 64 64 ⟨g, o', none⟩ 64 c hd hs (wriC (k, z64)).toArray 191 (heap_alloc_new w _) (vb l) (by rw [vb_length, hl]; rfl) (fun j v hv => ?_) (by simp [vb_length, hl, wriC, z64]) (vb_one l) ?_
  · rw [vb_get] at hv
    obtain ⟨y, hy, rfl⟩ := Option.map_eq_some_iff.1 hv
    have hj : j < l.length := (List.getElem?_eq_some_iff.1 hy).1
    rw [Addr.add_lit, World.cell?_alloc_lt _ _ _ hg]
    obtain ⟨g2, o2, e2, _, hc⟩ := hb.rd.2 (by omega)
    injection e2 with e2
    injection e2 with e3 e4
    subst e3; subst e4
    exact hc j y hy
  · rw [World.setRow_alloc_new]
    have e : (((wriC (k, z64)).toArray.toList.take 0) ++ (vb l ++ (wriC (k, z64)).toArray.toList.drop (0 + (vb l).length))).toArray = (wriC (k, l)).toArray := by
      rw [vb_length, hl]
      simp [wriC, z64, vb]
    rw [e, vb_length, hl]
    exact h
theorem write_eq (m : DM) (s : Int) (b : List Nat) : m.write s b = if m.up = false then (5, m) else if m.has s = false ∨ b.length ≠ 64 then (2, m) else if m.power = 0 then (5, { m with dead := true }) else (0, { m with power := lessP m.power, waits := m.waits ++ [(s.toNat, b)] }) := rfl
theorem run_one (m : DM) (s : Int) : runE m [s] = if m.up = false then 5 else if m.has s = false then 2 else 0 := by
  unfold runE
  rw [known_one]
theorem PD.more {w w' : World} {d g : Nat} {pv pv' : Value} {m : DM} (h : PD w d g pv m) (F : Nat → Prop) (k : Mod F w w') (hF : ¬ F g) (x : Nat × List Nat) (hx : x.1 < m.size) (hx2 : Sect x.2)
    (hd : HeadAt w' d (.pointer (some ⟨d, 0, none⟩)) (stOf m) m.power (.slice (some ⟨g, 0, none⟩) m.size m.size) pv') (hp : w'.ownsRow 0 191 65 pv' (m.waits.length + 1) (penC m.waits ++ wriC x)) (hne : ∀ i, pv'.ownBlock = some i → i ≠ d ∧ i ≠ g) : PD w' d g pv' { m with waits := m.waits ++ [x] } := by
  refine ⟨⟨h.ok.meant, h.ok.lost, h.ok.rests, h.ok.means, fun y hy => ?_, h.ok.power⟩, h.n1, h.top, hd, ?_, ?_, h.dg, hne⟩
  · rcases List.mem_append.1 hy with hy | hy
    · exact h.ok.waits y hy
    · simp only [List.mem_singleton] at hy
      subst hy
      exact ⟨hx, hx2⟩
  · obtain ⟨cur, c1, c2, c3⟩ := h.med.mod k hF
    exact ⟨cur, c1, c2, c3⟩
  · show w'.ownsRow 0 _ 65 pv' (m.waits ++ [x]).length (penC (m.waits ++ [x]))
    rw [List.length_append, penC_snoc]
    exact hp
set_option maxHeartbeats 3200000 in
theorem write_of {w : World} {d g : Nat} {pv : Value} {m : DM} (h : PD w d g pv m) (s : Int) (A : Option Addr) (n c : Nat) (b : List Nat) (hb : By w A n c b) (hoff : Off (fun i => i = d) A) (hfew : m.waits.length ≤ 1000000) :
    Calls Tryz.prog 79 #[.pointer (some ⟨d, 0, none⟩), .int .i64 s, .slice A n c] w fun e w' => ∃ pv', e = .returned (.int .i64 (m.write s b).1) ∧ PD w' d g pv' (m.write s b).2 ∧ (pv'.ownBlock = pv.ownBlock ∨ ∃ i, pv'.ownBlock = some i ∧ w.heap.size ≤ i) ∧ Mod (Fp d g pv) w w' := by
  have hx := (Ext.refl w).alloc (.cells #[.int .i64 s] 3)
  have h1 := h.ext hx
  have hz := ZsAt.one w s 3
  have hk := running_of h1 _ 1 1 [s] hz
  rw [run_one] at hk
  have HX := Lib.hid hx
  have H1 := Lib.hid h1
  have HP := Lib.hid (write_eq m s b)
  have HB := Lib.hid (By.ext hb hx)
  have HN := Lib.hid (Bs.len hb)
  have hnm : n ≤ 9223372036854775807 := Nat.le_trans (Bs.cap hb) (Bs.most hb)
  clear h h1 hx hz hb
  by_cases hu : m.up = false
  · have HP1 := Lib.hid (show m.write s b = _ by rw [HP.out, if_pos hu])
    rw [if_pos hu] at hk
    have HK := Lib.hid hk
    clear hk hu HP
    go_enter Tryz.func79, Tryz.ntmps79
    go_wp2_with fail
    refine HK.out.mono ?_
    rintro e w1 ⟨rfl, rfl⟩
    go_wp2_with fail
    go_ret
    exact ⟨pv, by rw [HP1.out]; rfl, by rw [HP1.out]; exact H1.out, .inl rfl, Mod.of_ext HX.out⟩
  rw [if_neg hu] at hk
  have HP := Lib.hid (show m.write s b = _ by rw [HP.out, if_neg hu])
  have hup : m.up = true := by simpa using hu
  have HUP := Lib.hid hup
  clear hu hup
  by_cases hh : m.has s = false
  · have HP1 := Lib.hid (show m.write s b = _ by rw [HP.out, if_pos (.inl hh)])
    rw [if_pos hh] at hk
    have HK := Lib.hid hk
    clear hk hh HP
    go_enter Tryz.func79, Tryz.ntmps79
    go_wp2_with fail
    refine HK.out.mono ?_
    rintro e w1 ⟨rfl, rfl⟩
    go_wp2_with fail
    go_ret
    exact ⟨pv, by rw [HP1.out]; rfl, by rw [HP1.out]; exact H1.out, .inl rfl, Mod.of_ext HX.out⟩
  rw [if_neg hh] at hk
  have HK := Lib.hid hk
  by_cases hn : n = 64
  · have hhas : m.has s = true := by simpa using hh
    obtain ⟨hs0, hs1⟩ := DM.has_iff.1 hhas
    obtain ⟨k, rfl⟩ := Int.eq_ofNat_of_zero_le hs0
    have hks : k < m.size := by omega
    subst hn
    have HP := Lib.hid (show m.write (k : Int) b = _ by rw [HP.out, if_neg (by rw [HN.out]; intro hc; exact hc.elim hh (fun h => h rfl))])
    rw [Int.toNat_natCast] at HP
    have hdr := draw_of H1.out.headAt H1.out.ok.power H1.out.top
    have HD := Lib.hid hdr
    clear hk hh hhas hdr
    by_cases hp0 : m.power = 0
    · have HP1 := Lib.hid (show m.write (k : Int) b = _ by rw [HP.out, if_pos hp0])
      have HS : Hid (drawE m.power = 5 ∧ drawS m.power (stOf m) = stOf { m with dead := true } ∧ lessP m.power = 0) := Lib.hid ⟨by rw [hp0]; rfl, by
        rw [hp0]
        show (1 : Int) = stOf { m with dead := true }
        unfold stOf
        have hd : m.down = false := by
          have hup := HUP.out
          unfold DM.up at hup
          cases hm : m.down <;> simp_all
        simp [hd], by rw [hp0]; rfl⟩
      have HP0 := Lib.hid hp0
      clear hp0 HP
      go_enter Tryz.func79, Tryz.ntmps79
      go_wp2_with fail
      refine HK.out.mono ?_
      rintro e w1 ⟨rfl, rfl⟩
      go_wp2_with fail
      refine HD.out.mono ?_
      rw [HS.out.1, HS.out.2.1, HS.out.2.2]
      rintro e w2 ⟨rfl, hh, hm⟩
      have HM := Lib.hid hm
      have HH := Lib.hid hh
      clear hh hm
      go_wp2_with fail
      go_ret
      refine ⟨pv, by rw [HP1.out]; rfl, ?_, .inl rfl, (Mod.of_ext HX.out).then (HM.out.mono fun _ hi => .inl hi)⟩
      rw [HP1.out]
      exact H1.out.head_turned HM.out (stOf { m with dead := true }) 0 HH.out _ ⟨H1.out.ok.meant, H1.out.ok.lost, H1.out.ok.rests, H1.out.ok.means, H1.out.ok.waits, H1.out.ok.power⟩ rfl rfl rfl rfl rfl HP0.out (by omega)
    · have HP1 := Lib.hid (show m.write (k : Int) b = _ by rw [HP.out, if_neg hp0])
      have HS : Hid (drawE m.power = 0 ∧ drawS m.power (stOf m) = stOf m) := Lib.hid ⟨if_neg hp0, if_neg hp0⟩
      clear hp0 HP
      go_enter Tryz.func79, Tryz.ntmps79
      go_wp2_with fail
      refine HK.out.mono ?_
      rintro e w1 ⟨rfl, rfl⟩
      go_wp2_with fail
      refine HD.out.mono ?_
      rw [HS.out.1, HS.out.2]
      rintro e w2 ⟨rfl, hh, hm⟩
      have hpd : PD w2 d g pv { m with power := lessP m.power } := H1.out.head_turned hm (stOf m) (lessP m.power) hh { m with power := lessP m.power } ⟨H1.out.ok.meant, H1.out.ok.lost, H1.out.ok.rests, H1.out.ok.means, H1.out.ok.waits, lessP_le H1.out.ok.power⟩ rfl rfl rfl rfl rfl rfl (by
        have := H1.out.top
        unfold lessP
        split <;> omega)
      have H2 := Lib.hid hpd
      have HM := Lib.hid hm
      have hb2 : Hid (By w2 A 64 c b) := Lib.hid (HB.out.mod hm hoff)
      clear hh hm hpd
      have hzv := zv_wri
      go_wp2_with (first
        | (refine wb_wri rfl _ k rfl rfl ?_)
        | (refine ws_wri rfl _ _ rfl (wriC (k, z64)) rfl rfl (wriC_len (by simp [z64])) (wriC_one _) ?_)
        | (refine wl_copy rfl _ _ rfl k b HN.out A c rfl rfl hb2.out ?_))
      simp only [Act.put, goInt, List.setIfInBounds_toArray, List.set_cons_zero, List.set_cons_succ]
      have hE3 := ((Ext.refl w2).alloc (.cells (wriC (k, b)).toArray 191))
      have h3 := H2.out.ext hE3
      have HX3 : Hid (Mod (fun i => i = d) w (w2.alloc (.cells (wriC (k, b)).toArray 191))) := Lib.hid (((Mod.of_ext HX.out).then HM.out).ext hE3)
      have hrn : (w2.alloc (.cells (wriC (k, b)).toArray 191)).rangeAt w2.heap.size 0 (wriC (k, b)) := range_new w2 _ (wriC (k, b)) [] (wriC (k, b)) [] (by simp) 0 rfl
      have hsx : Sect b := ⟨HN.out, hb2.out.rd.lt⟩
      have HSX := Lib.hid hsx
      have hbne : w2.heap.size ≠ d := Nat.ne_of_gt H2.out.lt
      have hlt3 : w2.heap.size < (w2.alloc (.cells (wriC (k, b)).toArray 191)).heap.size := by simp
      have hpn : ∀ i, pv.ownBlock = some i → i ≠ w2.heap.size := fun i hi => Nat.ne_of_lt (H2.out.pen.lt i hi).2
      have HPN := Lib.hid hpn
      have hl65 : (wriC (k, b)).length = 65 := wriC_len hsx.1
      have h1c := wriC_one (k, b)
      have HE3 := Lib.hid hE3
      have H3 := Lib.hid h3
      generalize w2.alloc (.cells (wriC (k, b)).toArray 191) = w3 at *
      obtain ⟨n3, hn3⟩ : ∃ n3, w2.heap.size = n3 := ⟨_, rfl⟩
      rw [hn3] at hrn hbne hlt3
      have HN3 := Lib.hid hn3
      obtain ⟨C, hC⟩ : ∃ C, wriC (k, b) = C := ⟨_, rfl⟩
      rw [hC] at hrn hl65 h1c
      have HC := Lib.hid hC
      obtain ⟨⟨_, _, _, _, c4⟩, _, _, _, _, f4⟩ := h3.cells
      obtain ⟨N, hN, hsz⟩ := size_wri
      have HN65 := Lib.hid hN
      have hag := agg_wri
      have hlen : C.length = N := by rw [hN]; exact hl65
      have hN1 : ¬ 16777216 < N := by omega
      have hN0 : ¬ N = 0 := by omega
      have hld : (loadCellsFrom ⟨n3, 0, none⟩ 0 N #[]).run Tryz.prog w3.drew = .ok C.toArray w3.drew := lcf w3.drew n3 0 N _ hlen hrn
      have hfold : List.foldl (fun (cs : Array Value) (x : Value × Nat) => cs.setIfInBounds x.snd x.fst) (Array.map (fun x => zWri[x % zWri.size]!) (Array.range N)) C.zipIdx = C.toArray := by
        have key : ∀ Z : Array Value, Z.size = N → List.foldl (fun (cs : Array Value) (x : Value × Nat) => cs.setIfInBounds x.snd x.fst) Z C.zipIdx = C.toArray := fun Z hZ => by
          have := fold_put C [] Z.toList [] (by rw [Array.length_toList, hZ, hlen])
          simp only [List.length_nil, List.nil_append, List.append_nil] at this
          exact this
        exact key _ (by simp)
      have hE4 : Ext w3 (w3.alloc (.cells C.toArray 191)).drew := ((Ext.refl w3).alloc _).drew
      have hpen : (w3.alloc (.cells C.toArray 191)).drew.ownsRow 0 191 65 pv m.waits.length (penC m.waits) := (H3.out.ext hE4).pen
      have hcf : ((w3.alloc (.cells C.toArray 191)).drew.cell? ⟨d, 4, none⟩ = some pv) ∧ (w3.alloc (.cells C.toArray 191)).drew.frozen? ⟨d, 4, none⟩ = false := ⟨(H3.out.ext hE4).cells.1.2.2.2.2, (H3.out.ext hE4).cells.2.2.2.2.2⟩
      have hnw : (w3.alloc (.cells C.toArray 191)).drew.heap[w3.heap.size]? = some (.cells C.toArray 191 (0, 0)) := heap_alloc_new w3 _
      have HPEN := Lib.hid hpen
      have HCF := Lib.hid hcf
      have HNW := Lib.hid hnw
      have HE4 := Lib.hid hE4
      have HC65 := Lib.hid hl65
      have h4 := hcf.1
      have hdlt := H3.out.lt
      have hpd := H3.out.pd
      have HPD := Lib.hid hpd
      have HLT : Hid (d < (w3.alloc (.cells C.toArray 191)).drew.heap.size) := Lib.hid (Nat.lt_of_lt_of_le hdlt hE4.size)
      clear h3 hE3 hC hN hsx hpn hl65 hcf hnw hpen hE4 hpd hdlt
      rw [hn3]
      clear hn3
      go_region_law (first
        | (refine step_append_lies _ rfl _ _ 118 rfl 0 191 (Classical.choose (info_parts wri_info3)) (.agg zWri) 65 72 Tryz.underlying118 (Classical.choose_spec (info_parts wri_info3)).1 (Classical.choose_spec (info_parts wri_info3)).2.1 (Classical.choose_spec (info_parts wri_info3)).2.2.1 (Classical.choose_spec (info_parts wri_info3)).2.2.2 zWri_size (by decide) pv m.waits.length (penC m.waits) rfl HPEN.out ⟨w3.heap.size, 0, none⟩ 1 1 C rfl (by rw [HC65.out]) (fun j u hu => World.news_of_block HNW.out j u hu) h1c (by omega) (by unfold maxLen; omega) (by omega) (Nat.zero_le _) (w3.heap.size + 1) (by simp) ?_; intro bk cap w4 hown hgrow hat hlt; have hc4 := (World.grownBy.cell_far hgrow ⟨d, 4, none⟩ HLT.out (fun e => (HPD.out d e.symm).1 rfl)).trans HCF.out.1; have hf4 := (World.grownBy.frozen_far hgrow ⟨d, 4, none⟩ HLT.out (fun e => (HPD.out d e.symm).1 rfl)).trans HCF.out.2; have HOWN := Lib.hid hown; have HGR := Lib.hid hgrow; have HAT := Lib.hid hat; clear hown hgrow hat hlt))
      all_goals
        clear hld hfold h4 hsz hag hlen hN1 hN0
        go_wp2_with fail
        go_ret
        have hbk : bk ≠ d ∧ bk ≠ g := HAT.out.elim (fun e => HPD.out bk e) fun e => by
          have h1 := H3.out.lt
          have h2 := H3.out.glt
          omega
        have hg0 : ∀ i, pv.ownBlock = some i → i ≠ d ∧ i ≠ g := HPD.out
        have m34 : Mod (fun i => i = d ∨ pv.ownBlock = some i) w3 (w4.setCell ⟨d, 4, none⟩ (.slice (some ⟨bk, 0, none⟩) (m.waits.length + 1) cap)) :=
          ((Mod.of_ext HE4.out).grown HGR.out fun i hi => .inl (.inr hi)).setCell (p := ⟨d, 4, none⟩) (.inl (.inl rfl)) _
        have m03 : Mod (Fp d g pv) w w3 := HX3.out.mono fun _ hi => .inl hi
        have hC := HC.out
        subst hC
        refine ⟨by rw [HP1.out]; rfl, .slice (some ⟨bk, 0, none⟩) (m.waits.length + 1) cap, ?_, ?_, m03.trans m34 fun i hi => .inl (hi.elim (fun h => .inl h) fun h => .inr (.inr h))⟩
        · rw [HP1.out]
          have hh4 : w4.heap[d]? = some (.cells #[.pointer (some ⟨d, 0, none⟩), .int .u8 (stOf m), .int .i64 (lessP m.power), .slice (some ⟨g, 0, none⟩) m.size m.size, pv] 120 (0, 0)) :=
            (HGR.out.block d HLT.out (fun e => (hg0 d e.symm).1 rfl)).trans (H3.out.ext HE4.out).head
          refine H3.out.more (fun i => i = d ∨ pv.ownBlock = some i) m34 (fun h => h.elim (fun e => H3.out.dg e.symm) fun e => (hg0 g e).2 rfl) (k, b) hks HSX.out (row_set 4 hh4 _ rfl) ?_ ?_
          · exact own_mod (F := fun i => i = d) HOWN.out ((Mod.refl _ _).own_cell _ _) fun i hi => by
              injection hi with hi
              subst hi
              exact hbk.1
          · intro i hi
            injection hi with hi
            subst hi
            exact hbk
        · rcases HAT.out with e | e
          · exact .inl e.symm
          · refine .inr ⟨bk, rfl, ?_⟩
            have := m03.size
            omega
  · have HP1 := Lib.hid (show m.write s b = _ by rw [HP.out, if_pos (.inr (by rw [HN.out]; exact hn))])
    have hne : ((n : Int) != 64) = true := by rw [bne_iff_ne]; omega
    clear hk hh HP
    go_enter Tryz.func79, Tryz.ntmps79
    go_wp2_with fail
    refine HK.out.mono ?_
    rintro e w1 ⟨rfl, rfl⟩
    go_wp2_with fail
    go_ret
    exact ⟨pv, by rw [HP1.out]; rfl, by rw [HP1.out]; exact H1.out, .inl rfl, Mod.of_ext HX.out⟩
end
section
open Go Go.RowKit
theorem Vs.mod {w w' : World} {B : Nat} {A : Option Addr} {n c : Nat} {vs : List Value} {F : Nat → Prop} (h : Vs w B A n c vs) (k : Mod F w w') (hB : B ≤ w.heap.size) (ho : 0 < n → Off F A) : Vs w' B A n c vs :=
  ⟨h.len, h.cap, h.most, fun hn => by
    obtain ⟨g, o, e, hg, hc⟩ := h.rd hn
    refine ⟨g, o, e, hg, fun j v hv => ?_⟩
    rw [← hc j v hv]
    exact World.cell?_of_block (a := ⟨g, o + j, none⟩) (k.block g (by omega) (ho hn _ e)), h.nil_⟩
theorem kept_step {l : List (Nat × List Nat)} {j : Nat} {x : Nat × List Nat} (h : l[j]? = some x) (k : List Bool) : kept (l.take (j + 1)) k = if k[j]? = some true then kept (l.take j) k ++ [x] else kept (l.take j) k := by
  have hj : j < l.length := (List.getElem?_eq_some_iff.1 h).1
  rw [take_snoc h, kept_snoc, List.length_take, Nat.min_eq_left (by omega)]
set_option maxHeartbeats 3200000 in
theorem crash_of {w : World} {d g : Nat} {pv : Value} {m : DM} (h : PD w d g pv m) (kA : Option Addr) (kn kc : Nat) (kl : List Bool) (hkeep : Vs w w.heap.size kA kn kc (kl.map .bool)) (hoff : 0 < kn → Off (Fdg d g) kA) :
    Calls Tryz.prog 40 #[.pointer (some ⟨d, 0, none⟩), .slice kA kn kc] w fun e w' => ∃ pv', e = .returned (.int .i64 (m.crash kl).1) ∧ PD w' d g pv' (m.crash kl).2 ∧ (pv' = pv ∨ pv' = .slice none 0 0) ∧ Mod (Fdg d g) w w' := by
  have H := Lib.hid h
  have HP : Hid (m.crash kl = if m.down = true then (5, m) else (0, { m.comes (kept m.waits kl) with waits := [], down := true })) := Lib.hid rfl
  have HO := Lib.hid (DM.crash_ok h.ok kl)
  have HKP := Lib.hid hkeep
  have HOFF := Lib.hid hoff
  have hkm : kn ≤ 9223372036854775807 := Nat.le_trans hkeep.cap hkeep.most
  obtain ⟨⟨c0, c1, c2, c3, c4⟩, f0, f1, f2, f3, f4⟩ := h.cells
  clear hkeep hoff f0 f1 f2 f3 f4 c2 c3
  by_cases hd : m.down = true
  · have HP1 : Hid (m.crash kl = (5, m)) := Lib.hid (by rw [HP.out, if_pos hd])
    rw [stOf_down.2 hd] at c1
    clear hd HP h
    go_enter Tryz.func40, Tryz.ntmps40
    go_wp2_with fail
    refine (made_yes d _ c0).mono ?_
    rintro e w1 ⟨rfl, rfl⟩
    go_wp2_with fail
    go_ret
    exact ⟨pv, by rw [HP1.out]; rfl, by rw [HP1.out]; exact H.out, .inl rfl, Mod.refl _ _⟩
  · have HP1 : Hid (m.crash kl = (0, { m.comes (kept m.waits kl) with waits := [], down := true })) := Lib.hid (by rw [HP.out, if_neg hd])
    have hst : (stOf m == 2) = false := by
      have : ¬ stOf m = 2 := fun e => hd (stOf_down.1 e)
      simpa using this
    obtain ⟨A, c, hpv, hcap, hmost⟩ := h.pv_form
    obtain ⟨k, hk⟩ : ∃ k, m.waits.length = k := ⟨_, rfl⟩
    have HK := Lib.hid hk
    rw [hk] at hpv hcap
    subst hpv
    clear hd HP h hk
    generalize hs : stOf m = st at *
    clear hs
    go_enter Tryz.func40, Tryz.ntmps40
    go_wp2_with fail
    refine (made_yes d _ c0).mono ?_
    rintro e w1 ⟨rfl, rfl⟩
    go_wp2_with fail
    clear c0 c1 c4
    go_loopw [22] (fun i wr => ∃ j : Nat, j ≤ k ∧ i = .int .i64 j ∧ PD wr d g (.slice A k c) (m.comes (kept (m.waits.take j) kl)) ∧ Mod (Fdg d g) w wr) (fun i _ => k - (intOf i).toNat)
    case atStart => exact ⟨0, Nat.zero_le _, rfl, by rw [show kept (m.waits.take 0) kl = [] by simp [kept]]; exact H.out, Mod.refl _ _⟩
    case round =>
      obtain ⟨j, hj, rfl, hpd, hmod⟩ := hrel
      have HPD := Lib.hid hpd
      have HMD := Lib.hid hmod
      clear hpd hmod
      by_cases hlt : j < k
      · obtain ⟨x, hx⟩ : ∃ x, m.waits[j]? = some x := ⟨_, List.getElem?_eq_getElem (by rw [HK.out]; exact hlt)⟩
        have hcw := DM.comes_waits (kept (m.waits.take j) kl) m
        have hx2 : (m.comes (kept (m.waits.take j) kl)).waits[j]? = some x := by rw [hcw.1]; exact hx
        obtain ⟨b, c', hpv, hrange⟩ := HPD.out.pen_at hx2
        injection hpv with hA hB hC
        subst hA
        clear hB hC
        have hxm := HPD.out.ok.waits x (List.mem_of_getElem? hx2)
        have HX := Lib.hid hx
        have HXM := Lib.hid hxm
        have HRG := Lib.hid hrange
        have HL65 : Hid ((wriC x).length = 65) := Lib.hid (wriC_len hxm.2.1)
        have hzv := zv_wri
        have HRN : Hid ((wr.alloc (.cells (wriC x).toArray 191)).rangeAt wr.heap.size 0 (wriC x)) := Lib.hid (range_new wr _ (wriC x) [] (wriC x) [] (by simp) 0 rfl)
        have hE := (Ext.refl wr).alloc (.cells (wriC x).toArray 191)
        have HEX := Lib.hid hE
        have HKS := Lib.hid (kept_step hx kl)
        clear hcw hx hx2 hrange hxm hE
        have HVS : Hid (Vs (wr.alloc (.cells (wriC x).toArray 191)) w.heap.size kA kn kc (kl.map .bool)) := Lib.hid ((HKP.out.mod HMD.out (Nat.le_refl _) HOFF.out).mod (F := fun _ => False) (Mod.of_ext HEX.out) HMD.out.size fun _ _ _ h => h)
        by_cases hkj : j < kn
        · obtain ⟨kg, ko, rfl, _, hc⟩ := HVS.out.rd (by omega)
          obtain ⟨bb, hbb⟩ : ∃ bb, kl[j]? = some bb := ⟨_, List.getElem?_eq_getElem (by have := HVS.out.len; rw [List.length_map] at this; omega)⟩
          have hcell := hc j (.bool bb) (by rw [List.getElem?_map, hbb]; rfl)
          have HBB := Lib.hid hbb
          clear hc hbb
          cases bb with
          | true =>
            have HKS1 : Hid (kept (m.waits.take (j + 1)) kl = kept (m.waits.take j) kl ++ [x]) := Lib.hid (by rw [HKS.out, if_pos HBB.out])
            clear HKS
            go_wp2_with (first
              | (refine wl_wri rfl _ rfl b (j * 65) rfl (wriC x) HRG.out HL65.out ?_)
              | (refine ws_wri rfl _ _ rfl (wriC x) rfl rfl HL65.out (wriC_one x) ?_)
              | (refine wl_wri rfl _ rfl wr.heap.size 0 rfl (wriC x) HRN.out HL65.out ?_))
            refine (carry_of (HPD.out.ext HEX.out) x HXM.out.1 HXM.out.2).mono ?_
            rintro e w3 ⟨⟨v, rfl⟩, hp3, hm3⟩
            have HP3 := Lib.hid hp3
            have HM3 := Lib.hid ((HMD.out.ext HEX.out).then (Fdg.of_g hm3))
            clear hp3 hm3 hcell
            go_wp2_with fail
            go_roundw
            case rel => exact ⟨j + 1, by omega, by go_num, by rw [HKS1.out, comes_snoc]; exact HP3.out, HM3.out⟩
            case measure => simp [intOf]; omega
          | false =>
            have HKS1 : Hid (kept (m.waits.take (j + 1)) kl = kept (m.waits.take j) kl) := Lib.hid (by rw [HKS.out, if_neg (by rw [HBB.out]; simp)])
            clear HKS
            go_wp2_with (first
              | (refine wl_wri rfl _ rfl b (j * 65) rfl (wriC x) HRG.out HL65.out ?_)
              | (refine ws_wri rfl _ _ rfl (wriC x) rfl rfl HL65.out (wriC_one x) ?_))
            go_roundw
            case rel => exact ⟨j + 1, by omega, by go_num, by rw [HKS1.out]; exact HPD.out.ext HEX.out, HMD.out.ext HEX.out⟩
            case measure => simp [intOf]; omega
        · have HKS1 : Hid (kept (m.waits.take (j + 1)) kl = kept (m.waits.take j) kl) := Lib.hid (by
            rw [HKS.out, if_neg]
            rw [List.getElem?_eq_none (by have := HVS.out.len; rw [List.length_map] at this; omega)]
            simp)
          clear HKS
          go_wp2_with (first
            | (refine wl_wri rfl _ rfl b (j * 65) rfl (wriC x) HRG.out HL65.out ?_)
            | (refine ws_wri rfl _ _ rfl (wriC x) rfl rfl HL65.out (wriC_one x) ?_))
          go_roundw
          case rel => exact ⟨j + 1, by omega, by go_num, by rw [HKS1.out]; exact HPD.out.ext HEX.out, HMD.out.ext HEX.out⟩
          case measure => simp [intOf]; omega
      · have HTK : Hid (m.waits.take j = m.waits) := Lib.hid (List.take_of_length_le (by rw [HK.out]; omega))
        obtain ⟨⟨c0, c1, c2, c3, c4⟩, f0, f1, f2, f3, f4⟩ := HPD.out.cells
        clear c0 c2 c3 f0 f2 f3
        go_wp2_with fail
        go_ret
        have hpd := HPD.out
        rw [HTK.out] at hpd
        have hm4 : Mod (fun i => i = d) wr ((wr.setCell ⟨d, 4, none⟩ (.slice none 0 0)).setCell ⟨d, 1, none⟩ (.int .u8 2)) := ((Mod.refl _ _).own_cell _ _).own_cell _ _
        refine ⟨.slice none 0 0, by rw [HP1.out]; rfl, ?_, .inr rfl, HMD.out.then (Fdg.of_d hm4)⟩
        refine hpd.cleared hm4 _ ?_ HO.out (by rw [HP1.out]) (by rw [HP1.out]) (by rw [HP1.out]) (by rw [HP1.out]) (by rw [HP1.out])
        rw [HP1.out]
        exact row_set 1 (row_set 4 hpd.head _ rfl) _ rfl
end
section
open Go Go.RowKit
theorem disk_built (n : Nat) (g : Nat) : ∀ w, (Instr.build 120 #[(2, .int .i64 (-1)), (3, .slice (some ⟨g, 0, none⟩) n n)]).run Tryz.prog w = .ok (.agg #[.pointer none, .int .u8 0, .int .i64 (-1), .slice (some ⟨g, 0, none⟩) n n, .slice none 0 0]) w := fun w => run_build w _ _ _ (by kernel_rfl)
theorem medsl_info : (Tryz.prog.info? 207).map (fun i => (i.zero, i.size, i.bytes)) = some (some (.agg zMed), 129, 129) := by kernel_rfl
def mrow (n : Nat) : Obj := .cells (madeCells zMed (n * 129)) 207
theorem mk_med (n : Nat) (hn : n ≤ 1024) (w : World) : (Instr.makeSlice 117 (.int .i64 (n : Int)) (.int .i64 (n : Int))).run Tryz.prog w = .ok (.slice (some ⟨w.heap.size, 0, none⟩) n n) (w.alloc (mrow n)) := by
  obtain ⟨i0, hi, hz0, hz1, hz2⟩ := info_parts medsl_info
  rw [run_make w 117 207 i0 (.agg zMed) Tryz.underlying117 hi hz0 .i64 .i64 (n : Int) (n : Int) (by omega) (Int.le_refl _) (by rw [hz2]; omega) (by omega), Int.toNat_natCast]
  rw [hz1]
  rfl
theorem new_sec (n s : Nat) (hs : s < n) : (DM.new n).sec s = secC z64 z64 false := by
  have h : ∀ {α : Type} (x d : α), (List.replicate n x).getD s d = x := fun x d => by
    rw [List.getD_eq_getElem?_getD, List.getElem?_replicate, if_pos hs]; rfl
  unfold DM.sec DM.new
  simp only
  rw [h, h]
theorem new_size (n : Nat) : (DM.new n).size = n := by simp [DM.new, DM.size]
theorem MedAt.new_ {w : World} {g n : Nat} (h : w.heap[g]? = some (mrow n)) : MedAt w g (DM.new n) := by
  refine ⟨_, h, by rw [size_madeCells, new_size], fun s hs j v hv => ?_⟩
  rw [new_size] at hs
  rw [new_sec n s hs] at hv
  have hl : (secC z64 z64 false).length = 129 := by simp [secC, vb_length, z64]
  have hj : j < 129 := by rw [← hl]; exact (List.getElem?_eq_some_iff.1 hv).1
  have hle : (s + 1) * 129 ≤ n * 129 := Nat.mul_le_mul_right _ hs
  unfold madeCells
  rw [Array.getElem?_map, Array.getElem?_range, if_pos (by omega)]
  show some (zMed[(s * 129 + j) % zMed.size]!) = some v
  rw [zMed_size, show (s * 129 + j) % 129 = j by omega]
  have : zMed[j]? = some v := by unfold zMed; rw [List.getElem?_toArray]; exact hv
  rw [getElem!_def, this]
theorem new_pd {w : World} {d g n : Nat} (hn : 1 ≤ n ∧ n ≤ 1024) (hg : w.heap[g]? = some (mrow n)) (hd : w.heap[d]? = some (.cells #[.pointer (some ⟨d, 0, none⟩), .int .u8 0, .int .i64 (-1), .slice (some ⟨g, 0, none⟩) n n, .slice none 0 0] 120 (0, 0))) (hne : d ≠ g) : PD w d g (.slice none 0 0) (DM.new n) :=
  ⟨DM.new_ok n, by rw [new_size]; exact hn, by show (-1 : Int) ≤ _; omega, by rw [new_size]; exact hd, MedAt.new_ hg, World.ownsRow_nil _ _ _ _, hne, fun k hk => (by cases hk)⟩
set_option maxHeartbeats 1600000 in
theorem new_yes (n : Nat) (w : World) (h1 : 1 ≤ n) (h2 : n ≤ 1024) :
    Calls Tryz.prog 10 #[.int .i64 (n : Int)] w fun e w' => ∃ d g, e = .returned (.tuple #[.pointer (some ⟨d, 0, none⟩), .int .i64 0]) ∧ PD w' d g (.slice none 0 0) (DM.new n) ∧ w.heap.size ≤ d ∧ w.heap.size ≤ g ∧ Ext w w' := by
  have hmk := mk_med n h2
  have hbd := disk_built n w.heap.size
  go_enter Tryz.func10, Tryz.ntmps10
  go_wp2_with fail
  go_ret2
  have hg1 : (w.alloc (mrow n)).heap[w.heap.size]? = some (mrow n) := heap_alloc_last w _
  have hsz : (w.alloc (mrow n)).heap.size = w.heap.size + 1 := by simp
  refine ⟨w.heap.size + 1, w.heap.size, rfl, new_pd ⟨h1, h2⟩ ?_ ?_ (by omega), by omega, Nat.le_refl _, ((Ext.refl w).alloc _).alloc _⟩
  · exact (Below.heap_alloc _ _ _ (by omega)).trans hg1
  · have := heap_alloc_last (w.alloc (mrow n)) (.cells #[.pointer (some ⟨w.heap.size + 1, 0, none⟩), .int .u8 0, .int .i64 (-1), .slice (some ⟨w.heap.size, 0, none⟩) n n, .slice none 0 0] 120)
    rwa [hsz] at this
end
section
open Go Go.RowKit
def grow (F : Nat → Prop) (w w' : World) (k : Nat) : Prop := F k ∨ (w.heap.size ≤ k ∧ k < w'.heap.size)
def Outc (d : Nat) (F : Nat → Prop) (w : World) (E : Int) (m' : DM) (e : Ending) (w' : World) : Prop := e = .returned (.int .i64 E) ∧ PDisk w' d (grow F w w') m' ∧ Mod F w w'
theorem PDisk.step {w w' : World} {d g : Nat} {pv pv' : Value} {F : Nat → Prop} {m' : DM} (h2 : ∀ k, Fp d g pv k → F k) (h3 : ∀ k, F k → k < w.heap.size) (hp : PD w' d g pv' m') (hm : Mod (Fp d g pv) w w')
    (hb : pv'.ownBlock = pv.ownBlock ∨ pv'.ownBlock = none ∨ ∃ i, pv'.ownBlock = some i ∧ w.heap.size ≤ i) : PDisk w' d (grow F w w') m' ∧ Mod F w w' := by
  refine ⟨⟨g, pv', hp, fun k hk => ?_, fun k hk => ?_⟩, hm.mono h2⟩
  · rcases hk with rfl | rfl | hk
    · exact .inl (h2 _ (.inl rfl))
    · exact .inl (h2 _ (.inr (.inl rfl)))
    · rcases hb with e | e | ⟨i, e, hi⟩
      · exact .inl (h2 _ (.inr (.inr (by rw [← e]; exact hk))))
      · rw [e] at hk; cases hk
      · rw [e] at hk
        injection hk with hk
        subst hk
        exact .inr ⟨hi, (hp.pen.lt i e).2⟩
  · rcases hk with hk | hk
    · exact Nat.lt_of_lt_of_le (h3 k hk) hm.size
    · exact hk.2
section
variable {w : World} {d : Nat} {F : Nat → Prop} {m : DM}
theorem flush_pd (h : PDisk w d F m) : Calls Tryz.prog 146 #[.pointer (some ⟨d, 0, none⟩)] w (Outc d F w m.flush.1 m.flush.2) := by
  obtain ⟨g, pv, hp, h2, h3⟩ := h
  refine (flush_of hp).mono fun e w' ⟨pv', h1, h4, h5, h6⟩ => ?_
  have := PDisk.step h2 h3 h4 (h6.mono fun i hi => hi.elim .inl fun h => .inr (.inl h)) (by
    rcases h5 with rfl | rfl
    · exact .inl rfl
    · exact .inr (.inl rfl))
  exact ⟨h1, this.1, this.2⟩
theorem crash_pd (h : PDisk w d F m) (kA : Option Addr) (kn kc : Nat) (kl : List Bool) (hk : Vs w w.heap.size kA kn kc (kl.map .bool)) (ho : 0 < kn → Off F kA) :
    Calls Tryz.prog 40 #[.pointer (some ⟨d, 0, none⟩), .slice kA kn kc] w (Outc d F w (m.crash kl).1 (m.crash kl).2) := by
  obtain ⟨g, pv, hp, h2, h3⟩ := h
  refine (crash_of hp kA kn kc kl hk fun hn p hA hi => ho hn p hA (h2 _ (hi.elim .inl fun h => .inr (.inl h)))).mono fun e w' ⟨pv', h1, h4, h5, h6⟩ => ?_
  have := PDisk.step h2 h3 h4 (h6.mono fun i hi => hi.elim .inl fun h => .inr (.inl h)) (by
    rcases h5 with rfl | rfl
    · exact .inl rfl
    · exact .inr (.inl rfl))
  exact ⟨h1, this.1, this.2⟩
theorem start_pd (h : PDisk w d F m) : Calls Tryz.prog 41 #[.pointer (some ⟨d, 0, none⟩)] w (Outc d F w m.start.1 m.start.2) := by
  obtain ⟨g, pv, hp, h2, h3⟩ := h
  refine (start_of hp).mono fun e w' ⟨h1, h4, h6⟩ => ?_
  have := PDisk.step h2 h3 h4 (h6.mono fun i hi => .inl hi) (.inl rfl)
  exact ⟨h1, this.1, this.2⟩
theorem power_pd (h : PDisk w d F m) (n : Int) (hn : n ≤ 9223372036854775807) : Calls Tryz.prog 39 #[.pointer (some ⟨d, 0, none⟩), .int .i64 n] w (Outc d F w (m.setPower n).1 (m.setPower n).2) := by
  obtain ⟨g, pv, hp, h2, h3⟩ := h
  refine (power_of hp n hn).mono fun e w' ⟨h1, h4, h6⟩ => ?_
  have := PDisk.step h2 h3 h4 (h6.mono fun i hi => .inl hi) (.inl rfl)
  exact ⟨h1, this.1, this.2⟩
theorem lose_pd (h : PDisk w d F m) (s : Int) : Calls Tryz.prog 113 #[.pointer (some ⟨d, 0, none⟩), .int .i64 s] w (Outc d F w (m.lose s).1 (m.lose s).2) := by
  obtain ⟨g, pv, hp, h2, h3⟩ := h
  refine (lose_of hp s).mono fun e w' ⟨h1, h4, h6⟩ => ?_
  have := PDisk.step h2 h3 h4 (h6.mono fun i hi => .inr (.inl hi)) (.inl rfl)
  exact ⟨h1, this.1, this.2⟩
theorem write_pd (h : PDisk w d F m) (s : Int) (A : Option Addr) (n c : Nat) (b : List Nat) (hb : By w A n c b) (ho : Off F A) (hfew : m.waits.length ≤ 1000000) :
    Calls Tryz.prog 79 #[.pointer (some ⟨d, 0, none⟩), .int .i64 s, .slice A n c] w (Outc d F w (m.write s b).1 (m.write s b).2) := by
  obtain ⟨g, pv, hp, h2, h3⟩ := h
  refine (write_of hp s A n c b hb (fun p hA hi => ho p hA (h2 _ (.inl hi))) hfew).mono fun e w' ⟨pv', h1, h4, h5, h6⟩ => ?_
  have := PDisk.step h2 h3 h4 h6 (h5.imp id .inr)
  exact ⟨h1, this.1, this.2⟩
theorem read_pd (h : PDisk w d F m) (s : Int) (hfew : m.waits.length ≤ 1000000) : Calls Tryz.prog 206 #[.pointer (some ⟨d, 0, none⟩), .int .i64 s] w fun e w' => ∃ A n, e = .returned (.tuple #[.slice A n n, .int .i64 (m.read s).2]) ∧ New w.heap.size w' A n (m.read s).1 ∧ Ext w w' := by
  obtain ⟨g, pv, hp, h2, h3⟩ := h
  exact read_of hp s hfew
theorem rest_pd (h : PDisk w d F m) (s : Int) : Calls Tryz.prog 244 #[.pointer (some ⟨d, 0, none⟩), .int .i64 s] w fun e w' => ∃ A n, e = .returned (.tuple #[.slice A n n, .bool (m.at_ s).2.1, .int .i64 (m.at_ s).2.2]) ∧ New w.heap.size w' A n (m.at_ s).1 ∧ Ext w w' := by
  obtain ⟨g, pv, hp, h2, h3⟩ := h
  exact rest_of hp s
theorem meant_pd (h : PDisk w d F m) (s : Int) : Calls Tryz.prog 245 #[.pointer (some ⟨d, 0, none⟩), .int .i64 s] w fun e w' => ∃ A n, e = .returned (.tuple #[.slice A n n, .int .i64 (m.means s).2]) ∧ New w.heap.size w' A n (m.means s).1 ∧ Ext w w' := by
  obtain ⟨g, pv, hp, h2, h3⟩ := h
  exact meant_of hp s
theorem size_pd (h : PDisk w d F m) : Calls Tryz.prog 54 #[.pointer (some ⟨d, 0, none⟩)] w fun e w' => e = .returned (.int .i64 (m.size : Nat)) ∧ w = w' := by
  obtain ⟨g, pv, hp, h2, h3⟩ := h
  exact size_of hp
theorem up_pd (h : PDisk w d F m) : Calls Tryz.prog 57 #[.pointer (some ⟨d, 0, none⟩)] w fun e w' => e = .returned (.bool m.up) ∧ w = w' := by
  obtain ⟨g, pv, hp, h2, h3⟩ := h
  exact up_of hp
end
theorem new_pdk (n : Nat) (w : World) (h1 : 1 ≤ n) (h2 : n ≤ 1024) :
    Calls Tryz.prog 10 #[.int .i64 (n : Int)] w fun e w' => ∃ d, e = .returned (.tuple #[.pointer (some ⟨d, 0, none⟩), .int .i64 0]) ∧ PDisk w' d (fun k => w.heap.size ≤ k ∧ k < w'.heap.size) (DM.new n) ∧ Ext w w' := by
  refine (new_yes n w h1 h2).mono fun e w' ⟨d, g, he, hp, hd, hg, hx⟩ => ⟨d, he, ⟨g, .slice none 0 0, hp, ?_, fun k hk => hk.2⟩, hx⟩
  intro k hk
  rcases hk with rfl | rfl | hk
  · exact ⟨hd, hp.lt⟩
  · exact ⟨hg, hp.glt⟩
  · cases hk
end
section
open Go
def wOk (x : Int) : Bool := x == 1 || x == 2 || x == 4 || x == 6
def bnd (x : Int) : Int := if x = 1 then 256 else if x = 2 then 65536 else if x = 4 then 4294967296 else if x = 6 then 281474976710656 else 0
def fitsB (x n : Int) : Bool := decide (0 ≤ n) && decide (n < bnd x)
def digs : Nat → Nat → List Nat
  | 0, _ => []
  | k + 1, n => n % 256 :: digs k (n / 256)
theorem digs_length (k n : Nat) : (digs k n).length = k := by
  induction k generalizing n with
  | zero => rfl
  | succ k ih => simp [digs, ih]
theorem digs_lt (k n : Nat) : ∀ b ∈ digs k n, b < 256 := by
  induction k generalizing n with
  | zero => intro b hb; simp [digs] at hb
  | succ k ih =>
    intro b hb
    simp only [digs, List.mem_cons] at hb
    rcases hb with rfl | hb
    · omega
    · exact ih _ b hb
theorem digs_snoc (k n : Nat) : digs (k + 1) n = digs k n ++ [n / 256 ^ k % 256] := by
  induction k generalizing n with
  | zero => simp [digs]
  | succ k ih =>
    rw [digs, ih, digs, Nat.div_div_eq_div_mul, Nat.pow_succ, Nat.mul_comm 256]
    rfl
def num : List Nat → Nat
  | [] => 0
  | b :: r => b + 256 * num r
theorem num_lt (l : List Nat) (h : ∀ b ∈ l, b < 256) : num l < 256 ^ l.length := by
  induction l with
  | nil => simp [num]
  | cons b r ih =>
    have h1 := h b (by simp)
    have h2 := ih (fun c hc => h c (by simp [hc]))
    simp only [num, List.length_cons, Nat.pow_succ]
    omega
theorem num_digs (k n : Nat) (h : n < 256 ^ k) : num (digs k n) = n := by
  induction k generalizing n with
  | zero => simp at h; subst h; rfl
  | succ k ih =>
    have h2 : n / 256 < 256 ^ k := by rw [Nat.pow_succ] at h; omega
    simp only [digs, num, ih _ h2]
    omega
theorem digs_num (l : List Nat) (h : ∀ b ∈ l, b < 256) : digs l.length (num l) = l := by
  induction l with
  | nil => rfl
  | cons b r ih =>
    have h1 := h b (by simp)
    have h2 := ih (fun c hc => h c (by simp [hc]))
    simp only [List.length_cons, digs, num]
    rw [show (b + 256 * num r) % 256 = b by omega, show (b + 256 * num r) / 256 = num r by omega, h2]
theorem num_snoc (l : List Nat) (b : Nat) : num (l ++ [b]) = num l + 256 ^ l.length * b := by
  induction l with
  | nil => simp [num]
  | cons a r ih =>
    simp only [List.cons_append, num, ih, List.length_cons, Nat.pow_succ]
    have e : 256 * (num r + 256 ^ r.length * b) = 256 * num r + 256 ^ r.length * 256 * b := by
      rw [Nat.mul_add, ← Nat.mul_assoc, Nat.mul_comm 256 (256 ^ r.length)]
    omega
theorem wOk_cases {x : Int} (h : wOk x = true) : x = 1 ∨ x = 2 ∨ x = 4 ∨ x = 6 := by
  simp [wOk] at h; omega
theorem bnd_of_wOk {x : Int} (h : wOk x = true) : bnd x = 256 ^ x.toNat := by
  rcases wOk_cases h with rfl | rfl | rfl | rfl <;> rfl
theorem bnd_of_not {x : Int} (h : wOk x = false) : bnd x = 0 := by
  simp [wOk] at h
  simp [bnd, h]
theorem fits_iff {x n : Int} : fitsB x n = true ↔ wOk x = true ∧ 0 ≤ n ∧ n.toNat < 256 ^ x.toNat := by
  by_cases hw : wOk x = true
  · have e := bnd_of_wOk hw
    simp only [fitsB, Bool.and_eq_true, decide_eq_true_eq, hw, true_and, e]
    constructor
    · rintro ⟨h0, h1⟩
      refine ⟨h0, ?_⟩
      have : ((n.toNat : Nat) : Int) < ((256 ^ x.toNat : Nat) : Int) := by rw [Int.toNat_of_nonneg h0, Int.natCast_pow]; exact h1
      omega
    · rintro ⟨h0, h1⟩
      refine ⟨h0, ?_⟩
      have : ((n.toNat : Nat) : Int) < ((256 ^ x.toNat : Nat) : Int) := by omega
      rw [Int.toNat_of_nonneg h0, Int.natCast_pow] at this
      exact this
  · have e := bnd_of_not (by simpa using hw)
    simp only [fitsB, Bool.and_eq_true, decide_eq_true_eq, hw, e]
    constructor
    · rintro ⟨h0, h1⟩; omega
    · rintro ⟨h0, _⟩; simp at h0
end
end Go.Proofs.YtgcinagkbdcgiaaGreatDoor
