/- The walk of the program's Prune. -/
import Derived.Laws.MakeOwn
import Derived.Test.YtebejleeadofcaaPkXF38
namespace Go.Proofs.Ytebejleeadofcaa.Pg11
open Go.RowKit
open Nd0 Nd3 Tm0 Tm1 Tm2 Tm3 Tm8 Ap2 Pg1 Pg2 Rw0 Pg10
open Lx1 (ITermOk)
open Lx2 (IReached)
set_option linter.unusedVariables false

theorem infoInt : (Try.prog.info? 3).map (fun i => (i.zero, i.size, i.bytes)) = some (some (.int .i64 0), 1, 8) := by kernel_rfl
/-- n noughts. -/
def noughts (n : Nat) : Array Value := madeCells #[.int .i64 0] (n * 1)
theorem noughts_get (n j : Nat) (h : j < n) : (noughts n)[j]? = some (.int .i64 0) := by
  simp only [noughts, madeCells, Array.getElem?_map, Array.getElem?_range]
  rw [if_pos (by omega)]
  simp only [Option.map_some, List.size_toArray, List.length_cons, List.length_nil, Nat.zero_add, Nat.mod_one]
  rfl
theorem makeInts (n : Nat) (hn : n ≤ 1048576) (w : World) :
    (Instr.makeSlice 40 (.int .i64 (n : Int)) (.int .i64 (n : Int))).run Try.prog w = .ok (.slice (some ⟨w.heap.size, 0, none⟩) n n) (w.alloc (.cells (noughts n) 3)) := by
  obtain ⟨i, hi, hzz⟩ := Option.map_eq_some_iff.1 infoInt
  simp only [Prod.mk.injEq] at hzz
  obtain ⟨hz, hs, hb⟩ := hzz
  have h := run_make (P := Try.prog) w 40 3 i _ Try.underlying40 hi hz .i64 .i64 n n (by omega) (Int.le_refl _) (by rw [hb]; omega) (by omega)
  rw [hs] at h
  simpa [noughts, Value.cells] using h

theorem own_room {w : World} {B n c : Nat} {a : Option Addr} {L : List Nd} (h : Ap2.Own w B (.slice a n c) L) : L.length ≤ c := by
  obtain ⟨h1, h2⟩ := h
  rcases h2 with ⟨h0, h9⟩ | ⟨g', cap, cur, he, hb, hg, hn, rest⟩
  · cases h0; omega
  · cases he; exact hn

set_option maxRecDepth 100000 in
set_option maxHeartbeats 4000000 in
theorem iPrune (hTO : ITermOk) (hRE : IReached) (w : World) (a : Option Addr) (l : List Nd) (c : Nat) (hN : Nodes w a l) (hcap : l.length ≤ c) (hlen : l.length ≤ 1048576) :
    Calls Try.prog 44 #[.slice a l.length c] w fun e w' => (∃ a' c', e = .returned (.slice a' (pruneL l).length c') ∧ WNodes w' w.heap.size a' (pruneL l) ∧ (pruneL l).length ≤ c') ∧ Below w.heap.size w w' := by
  have HN : Hid (Nodes w a l) := hN
  have HTO : Hid ITermOk := hTO
  have HRE : Hid IReached := hRE
  have HCAP : Hid (l.length ≤ c) := hcap
  clear hcap hN hTO hRE
  go_enter Try.func44, Try.ntmps44
  go_wp2_with fail
  refine (HTO.out _ a l c (HN.out.below ((Below.refl _ _).alloc (Nat.le_refl _) _)) HCAP.out hlen).mono ?_
  rintro e w1 ⟨rfl, hb1⟩
  have HB1 : Hid (Below w.heap.size w w1) := ((Below.refl _ _).alloc (Nat.le_refl _) _).trans (hb1.mono (by simp))
  have HL1 : Hid (Ap2.Own w1 w.heap.size (.slice (some ⟨w.heap.size, 0, none⟩) 0 0) []) := (Own.lit w _ (Nat.le_refl _)).kept (S := fun _ => False) (Kept.ofBelow hb1) (fun _ _ h => h)
  clear hb1
  cases hT : termOk l
  · have HE : Hid (pruneL l = []) := by
      show _ = _
      unfold pruneL; rw [hT]; rfl
    go_wp2
    go_ret
    rw [HE.out]
    exact ⟨⟨_, _, rfl, ⟨Nat.zero_le _, .inl rfl⟩, Nat.zero_le _⟩, HB1.out⟩
  · have HT : Hid (termOk l = true) := hT
    obtain ⟨hl1, hl2⟩ := term_len hT
    clear hT
    have hmk := makeInts l.length hlen
    go_wp2_with fail
    clear hmk
    have hAl : Below w1.heap.size w1 (w1.alloc (.cells (noughts l.length) 3)) := (Below.refl _ _).alloc (Nat.le_refl _) _
    have HRW0 : Hid (Row (w1.alloc (.cells (noughts l.length) 3)) w1.heap.size l.length (fun i => .int .i64 ((fun _ => 0) i))) := Row.new _ _ _ _ _ (fun i hi => noughts_get _ _ hi)
    refine (HRE.out _ a l c ((HN.out.below HB1.out).below hAl) HCAP.out hlen).mono ?_
    rintro e w2 ⟨⟨a2, c2, rfl, hi2⟩, hb2⟩
    have hszA : (w1.alloc (.cells (noughts l.length) 3)).heap.size = w1.heap.size + 1 := by simp
    have HR2 : Hid (Row w2 w1.heap.size l.length (fun i => .int .i64 ((fun _ => 0) i))) := HRW0.out.below hb2
    have HRE2 : Hid (reachedL l = reachTo l l.length) := by
      show _ = _
      unfold reachedL; rw [HT.out]; rfl
    have HI2 : Hid (IntsIn w2 (w1.heap.size + 1) w2.heap.size a2 (reachTo l l.length)) := by
      have h9 := hi2.within
      rw [hszA, HRE2.out] at h9
      exact h9
    have HB2 : Hid (Below w.heap.size w w2) := (HB1.out.trans (hAl.mono HB1.out.size)).trans (hb2.mono (by have := HB1.out.size; omega))
    have hs2 : w1.heap.size + 1 ≤ w2.heap.size := by rw [← hszA]; exact hb2.size
    have HL2 : Hid (Ap2.Own w2 w.heap.size (.slice (some ⟨w.heap.size, 0, none⟩) 0 0) []) := (HL1.out.kept (S := fun _ => False) (Kept.ofBelow hAl) (fun _ _ h => h)).kept (S := fun _ => False) (Kept.ofBelow hb2) (fun _ _ h => h)
    have HW1 : Hid (w.heap.size < w1.heap.size) := (HL1.out.lt w.heap.size rfl).2
    have HTR : Hid (termOk l = true) := HT.out
    clear hi2 hb2 hAl HRW0 hszA
    rw [HRE2.out]
    obtain ⟨gp, hgp⟩ : ∃ gp : Nat, gp = w1.heap.size := ⟨_, rfl⟩
    rw [← hgp] at HR2 HI2 HW1 hs2 ⊢
    clear hgp
    have hRl := reachTo_length l l.length
    go_wp2_with fail
    go_loopw [3, 18] (fun v q wr => ∃ j : Nat, j ≤ (reachTo l l.length).length ∧ q = .int .i64 j ∧ Ap2.Own wr w.heap.size v (((reachTo l l.length).take j).map fun p => remap l (nth l p.toNat)) ∧ Below w.heap.size w wr ∧ (∃ P : Nat → Int, Row wr gp l.length (fun i => .int .i64 (P i)) ∧ ∀ p, p < l.length → flag (reachL l) p = true → (reachTo l p).length < j → P p = ((reachTo l p).length : Int)) ∧ IntsIn wr (gp + 1) w2.heap.size a2 (reachTo l l.length) ∧ w2.heap.size ≤ wr.heap.size ∧ ∀ x, v.ownBlock = some x → x < gp ∨ w2.heap.size ≤ x) (fun _ q _ => (reachTo l l.length).length - (intOf q).toNat)
    case atStart => exact ⟨0, Nat.zero_le _, rfl, HL2.out, HB2.out, ⟨_, HR2.out, fun p _ _ h => by omega⟩, HI2.out, Nat.le_refl _, fun x hx => by cases hx; exact .inl HW1.out⟩
    case round =>
      clear HL2 HB2 HR2 HI2
      obtain ⟨j, hj, rfl, ho, hb, ⟨P, hr, hP⟩, hi, hsz, hne⟩ := hrel
      have HB : Hid (Below w.heap.size w wr) := hb
      have HR : Hid (Row wr gp l.length (fun i => .int .i64 (P i))) := hr
      have HP : Hid (∀ p, p < l.length → flag (reachL l) p = true → (reachTo l p).length < j → P p = ((reachTo l p).length : Int)) := hP
      have HI : Hid (IntsIn wr (gp + 1) w2.heap.size a2 (reachTo l l.length)) := hi
      have hBs : w.heap.size ≤ wr.heap.size := hb.size
      clear hb hr hP hi
      obtain ⟨ao, co, rfl, hwn⟩ := ho.form
      have HO : Hid (Ap2.Own wr w.heap.size (.slice ao (((reachTo l l.length).take j).map fun p => remap l (nth l p.toNat)).length co) (((reachTo l l.length).take j).map fun p => remap l (nth l p.toNat))) := ho
      have HNE : Hid (∀ x, (Value.slice ao (((reachTo l l.length).take j).map fun p => remap l (nth l p.toNat)).length co).ownBlock = some x → x < gp ∨ w2.heap.size ≤ x) := hne
      have HLJ : Hid ((((reachTo l l.length).take j).map fun p => remap l (nth l p.toNat)).length = j) := by
        show _ = _
        rw [List.length_map, List.length_take]; omega
      clear ho hne
      by_cases hlt : j < (reachTo l l.length).length
      · have hjz : (j : Int) < ((reachTo l l.length).length : Int) := by omega
        clear hwn
        obtain ⟨x, hx, hxl, hxf, hxj⟩ := reach_at l l.length j hlt
        have HTK : Hid ((((reachTo l l.length).take (j + 1)).map fun p => remap l (nth l p.toNat)) = (((reachTo l l.length).take j).map fun p => remap l (nth l p.toNat)) ++ [remap l (nth l x)]) := by
          show _ = _
          rw [List.take_succ_eq_append_getElem hlt, List.map_append, hx]; simp
        generalize hL : (((reachTo l l.length).take j).map fun p => remap l (nth l p.toNat)) = L at HO HNE HLJ HTK
        clear hL
        rcases HI.out.2 with h0 | ⟨pb, po, rfl, hpB, hpU, hpc⟩
        · omega
        have q0 := (hpc j hlt).1
        rw [hx] at q0
        clear hpc hx
        obtain ⟨c1, c3⟩ := HR.out x hxl
        have hxz : (x : Int) < (l.length : Int) := by omega
        have hgl : gp < wr.heap.size := by omega
        have HXF : Hid (flag (reachL l) x = true) := hxf
        have HXJ : Hid ((reachTo l x).length = j) := hxj
        clear hxf hxj
        have HRS : Hid (Row (wr.setCell ⟨gp, x, none⟩ (.int .i64 (L.length : Int))) gp l.length (fun i => .int .i64 ((fun i => if i = x then (L.length : Int) else P i) i))) := by
          refine (HR.out.set hxl _).congr (fun i hi => ?_)
          by_cases e : i = x
          · simp [e]
          · simp [e]
        have hKS : Kept (fun b => b = gp) wr (wr.setCell ⟨gp, x, none⟩ (.int .i64 (L.length : Int))) := (Kept.refl (fun b => b = gp) wr).setCell (p := ⟨gp, x, none⟩) rfl _
        have HOS : Hid (Ap2.Own (wr.setCell ⟨gp, x, none⟩ (.int .i64 (L.length : Int))) w.heap.size (.slice ao L.length co) L) := HO.out.kept hKS (fun b hb e => by have := HNE.out b hb; omega)
        have HIS : Hid (IntsIn (wr.setCell ⟨gp, x, none⟩ (.int .i64 (L.length : Int))) (gp + 1) w2.heap.size (some ⟨pb, po, none⟩) (reachTo l l.length)) := HI.out.kept hKS (fun b h1 h2 e => by omega)
        have HBS : Hid (Below w.heap.size w (wr.setCell ⟨gp, x, none⟩ (.int .i64 (L.length : Int)))) := HB.out.trans (hKS.below (fun b (hb : b = gp) => by have := HW1.out; omega) hBs)
        have hss : (wr.setCell ⟨gp, x, none⟩ (.int .i64 (L.length : Int))).heap.size = wr.heap.size := by simp [World.setCell]
        have HSS : Hid ((wr.setCell ⟨gp, x, none⟩ (.int .i64 (L.length : Int))).heap.size = wr.heap.size) := hss
        clear hss hKS
        rcases (HN.out.below HBS.out).2 with h0 | ⟨xb, xo, rfl, hc⟩
        · omega
        obtain ⟨p0, p1, p2, p3, p4, p5⟩ := hc x hxl
        rw [nth_get hxl] at p0 p1 p2 p3 p4 p5
        clear hc
        have HPR : Hid (∀ p ∈ parts (nth l x), 0 ≤ p ∧ p < (l.length : Int)) := by
          show ∀ _, _
          intro p hp
          have := down_of HTR.out x hxl p hp
          omega
        have HMV : Hid (mv (fun i => if i = x then (L.length : Int) else P i) (nth l x) = remap l (nth l x)) := by
          show _ = _
          have hq : ∀ p ∈ parts (nth l x), (if p.toNat = x then (L.length : Int) else P p.toNat) = plc l p := by
            intro p hp
            have hd := down_of HTR.out x hxl p hp
            have hf := reach_closed (down_of HTR.out) hxl HXF.out hp
            rw [if_neg (by omega)]
            have h1 := reachTo_lt l (a := p.toNat) (b := x) (by omega) hf
            rw [HXJ.out] at h1
            exact HP.out p.toNat (by omega) hf h1
          have hcp := cnt_parts (nth l x)
          generalize nth l x = n at hq hcp
          unfold mv remap
          rw [hcp]
          have ha : 0 < cnt n.op → n.a ∈ parts n := by
            intro h
            rcases parts_cases n with e | e | e | e
            · rw [e] at hcp; simp at hcp; omega
            · rw [e]; simp
            · rw [e]; simp
            · rw [e]; simp
          have hb : 1 < cnt n.op → n.b ∈ parts n := by
            intro h
            rcases parts_cases n with e | e | e | e
            · rw [e] at hcp; simp at hcp; omega
            · rw [e] at hcp; simp at hcp; omega
            · rw [e]; simp
            · rw [e]; simp
          have hc : 2 < cnt n.op → n.c ∈ parts n := by
            intro h
            rcases parts_cases n with e | e | e | e
            · rw [e] at hcp; simp at hcp; omega
            · rw [e] at hcp; simp at hcp; omega
            · rw [e] at hcp; simp at hcp; omega
            · rw [e]; simp
          congr 1
          · by_cases h : 0 < cnt n.op
            · rw [if_pos h, if_pos h]; exact hq _ (ha h)
            · rw [if_neg h, if_neg h]
          · by_cases h : 1 < cnt n.op
            · rw [if_pos h, if_pos h]; exact hq _ (hb h)
            · rw [if_neg h, if_neg h]
          · by_cases h : 2 < cnt n.op
            · rw [if_pos h, if_pos h]; exact hq _ (hc h)
            · rw [if_neg h, if_neg h]
        go_wp2_with fail
        generalize wr.setCell ⟨gp, x, none⟩ (.int .i64 (L.length : Int)) = ws at HRS HOS HIS HBS HSS p0 p1 p2 p3 p4 p5 ⊢
        refine (iMoved (nth l x) _ gp l.length l.length _ HRS.out HPR.out hl2).mono ?_
        rintro e w4 ⟨rfl, hb4⟩
        rw [HMV.out]
        have HO4 : Hid (Ap2.Own w4 w.heap.size (.slice ao L.length co) L) := HOS.out.kept (S := fun _ => False) (Kept.ofBelow hb4) (fun _ _ h => h)
        have HI4 : Hid (IntsIn w4 (gp + 1) w2.heap.size (some ⟨pb, po, none⟩) (reachTo l l.length)) := HIS.out.kept (S := fun _ => False) (Kept.ofBelow hb4) (fun _ _ _ h => h)
        have HR4 : Hid (Row w4 gp l.length (fun i => .int .i64 ((fun i => if i = x then (L.length : Int) else P i) i))) := HRS.out.below hb4
        have HB4 : Hid (Below w.heap.size w w4) := HBS.out.trans (hb4.mono HBS.out.size)
        have hs4 : wr.heap.size ≤ w4.heap.size := by have := hb4.size; have := HSS.out; omega
        have hB4 : w.heap.size ≤ w4.heap.size := by omega
        have hLl : L.length ≤ 1048576 := by have := HLJ.out; omega
        clear hb4 p0 p1 p2 p3 p4 p5 c1 c3
        generalize hy : remap l (nth l x) = y at HTK
        clear hy HMV
        go_wp2_with (at_builtin; go_must (refine app_node _ rfl _ _ rfl w.heap.size (.slice ao L.length co) L y rfl _ rfl rfl HO4.out hB4 hLl ?_; intro g5 cp5 w5 ho5 hk5 hg5))
        have HO5 : Hid (Ap2.Own w5 w.heap.size (.slice (some ⟨g5, 0, none⟩) (L.length + 1) cp5) (L ++ [y])) := ho5
        have HK5 : Hid (Kept (fun k => (Value.slice ao L.length co).ownBlock = some k) w4 w5) := hk5
        have HG5 : Hid ((Value.slice ao L.length co).ownBlock = some g5 ∨ w4.heap.size ≤ g5) := hg5
        clear ho5 hk5 hg5
        go_wp2
        go_roundw
        case rel =>
          refine ⟨j + 1, by omega, by go_num, by rw [HTK.out]; exact HO5.out, HB4.out.trans (HK5.out.below (fun b hb => (HO4.out.lt b hb).1) hB4), ⟨_, HR4.out.kept HK5.out (fun e => by have := HNE.out gp e; omega), fun p hp hf hpj => ?_⟩, HI4.out.kept HK5.out (fun b h1 h2 e => by have := HNE.out b e; omega), by have := HK5.out.size; omega, fun b hb => ?_⟩
          · by_cases e : p = x
            · subst e
              rw [if_pos rfl, HLJ.out, HXJ.out]
            · rw [if_neg e]
              refine HP.out p hp hf ?_
              rcases Nat.lt_or_ge (reachTo l p).length j with h | h
              · exact h
              · exact absurd (reachTo_inj l hf HXF.out (by rw [HXJ.out]; omega)) e
          · cases hb
            rcases HG5.out with e | e
            · exact HNE.out _ e
            · exact .inr (by show _ ≤ g5; omega)
        case measure => simp [intOf]; omega
      · have e2 : j = (reachTo l l.length).length := by omega
        have HPE : Hid (pruneL l = ((reachTo l l.length).take j).map fun p => remap l (nth l p.toNat)) := by
          show _ = _
          unfold pruneL; rw [HTR.out, if_pos rfl, prune_map, List.take_of_length_le (by omega)]
        have HCO : Hid ((((reachTo l l.length).take j).map fun p => remap l (nth l p.toNat)).length ≤ co) := own_room HO.out
        have HW : Hid (WNodes wr w.heap.size ao (((reachTo l l.length).take j).map fun p => remap l (nth l p.toNat))) := hwn
        have hjz : ¬ (j : Int) < ((reachTo l l.length).length : Int) := by omega
        clear hwn HO HNE HLJ e2
        generalize (((reachTo l l.length).take j).map fun p => remap l (nth l p.toNat)) = L at HPE HW HCO ⊢
        go_wp2
        go_ret
        rw [HPE.out]
        exact ⟨⟨ao, co, rfl, HW.out, HCO.out⟩, HB.out⟩

end Go.Proofs.Ytebejleeadofcaa.Pg11
