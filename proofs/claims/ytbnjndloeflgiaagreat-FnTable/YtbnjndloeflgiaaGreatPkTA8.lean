/- Small texts of mine, one behind the other. -/
import Derived.WalkSpells
import Derived.Deep.Light
import Derived.Test.YtbnjndloeflgiaaGreatRows
import Derived.Deep.AppendLies
import Derived.OwnWalk
import Derived.Test.YtbnjndloeflgiaaGreatPkTA6
import Derived.Test.YtbnjndloeflgiaaGreatPkTA2
import Derived.Test.YtbnjndloeflgiaaGreatPkTA0
import Derived.Test.YtbnjndloeflgiaaGreatPkTA7
import Derived.Test.YtbnjndloeflgiaaGreatPkTA1
/- The walk of the model's search for what the root reaches. -/
namespace Go.Proofs.YtbnjndloeflgiaaGreat.Sp5
open Go.RowKit
open Nd0 Nd1 Tm0 Tm1 Ap1 Sp2
set_option linter.unusedVariables false

set_option maxHeartbeats 4000000 in
theorem sReach (w : World) (a : Option Addr) (l : List Nd) (c : Nat) (hN : Nodes w a l) (hT : termOk l = true) :
    Calls Tryz.prog 36 #[.slice a l.length c] w fun e w' => (∃ v, e = .returned v ∧ Owb w' w.heap.size v (reachL l)) ∧ Below w.heap.size w w' := by
  have HN : Hid (Nodes w a l) := hN
  have HT : Hid (termOk l = true) := hT
  obtain ⟨hl1, hl2⟩ := term_len hT
  clear hN hT
  go_enter Tryz.func36, Tryz.ntmps36
  go_wp2
  go_loopw [3, 4] (fun v q wr => ∃ k : Nat, k ≤ l.length ∧ q = .int .i64 k ∧ Below w.heap.size w wr ∧ Owb wr w.heap.size v ((reachInit l.length).take k)) (fun _ q _ => l.length - (intOf q).toNat)
  case atStart => exact ⟨0, Nat.zero_le _, rfl, (Below.refl _ _).alloc (Nat.le_refl _) _, Owb.lit w _ (Nat.le_refl _)⟩
  case round =>
    obtain ⟨k, hk, rfl, hb, hown⟩ := hrel
    have HB : Hid (Below w.heap.size w wr) := hb
    have HO : Hid (Owb wr w.heap.size u3 ((reachInit l.length).take k)) := hown
    have hBs : w.heap.size ≤ wr.heap.size := hb.size
    clear hb
    by_cases hlt : k < l.length
    · clear hown
      have hlen : ((reachInit l.length).take k).length = k := by rw [List.length_take, reachInit_length]; omega
      have HT2 : Hid ((reachInit l.length).take (k + 1) = (reachInit l.length).take k ++ [((k : Int) == (l.length : Int) - 1)]) := by
        show (reachInit l.length).take (k + 1) = _
        rw [List.take_succ_eq_append_getElem (by rw [reachInit_length]; exact hlt)]
        congr 2
        simp only [reachInit, List.getElem_map, List.getElem_range]
        rw [Bool.eq_iff_iff]
        simp
        omega
      have hlz : (k : Int) < (l.length : Int) := by omega
      go_wp2_with (at_builtin; go_must (refine app_bool _ rfl _ _ rfl w.heap.size u3 ((reachInit l.length).take k) ((k : Int) == (l.length : Int) - 1) rfl rfl HO.out hBs (by omega) ?_; intro g cp w3 ho3 hk3 hg3))
      have HO3 : Hid (Owb w3 w.heap.size (.slice (some ⟨g, 0, none⟩) (((reachInit l.length).take k).length + 1) cp) ((reachInit l.length).take k ++ [((k : Int) == (l.length : Int) - 1)])) := ho3
      have HK3 : Hid (Kept (fun k => u3.ownBlock = some k) wr w3) := hk3
      clear ho3 hk3 hg3
      go_wp2
      go_roundw
      case rel =>
        refine ⟨k + 1, by omega, by go_num, HB.out.trans (HK3.out.below (fun k hk => (HO.out.lt k hk).1) hBs), ?_⟩
        rw [HT2.out]
        have h9 := HO3.out
        rw [hlen] at h9
        exact h9
      case measure => simp [intOf]; omega
    · have e2 : k = l.length := by omega
      subst e2
      have hown2 : Owb wr w.heap.size u3 (reachInit l.length) := by
        have h9 := hown
        rw [List.take_of_length_le (by rw [reachInit_length]; exact Nat.le_refl _)] at h9
        exact h9
      obtain ⟨g, cp, hv, hg1, hg2⟩ := hown2.at (by rw [reachInit_length]; exact hl1)
      rw [reachInit_length] at hv
      subst hv
      clear hown HO
      have HO : Hid (Owb wr w.heap.size (.slice (some ⟨g, 0, none⟩) l.length cp) (reachInit l.length)) := hown2
      clear hown2
      have HBO : Hid (Below w.heap.size w wr) := HB.out
      obtain ⟨wa, rfl⟩ : ∃ wa : World, wa = wr := ⟨_, rfl⟩
      go_wp2
      go_loopw [5] (fun q wr => ∃ j : Nat, j ≤ l.length ∧ q = .int .i64 ((j : Int) - 1) ∧ ∃ bs : List Bool, Owb wr w.heap.size (.slice (some ⟨g, 0, none⟩) l.length cp) bs ∧ bs.length = l.length ∧ reachDown l j bs = reachL l ∧ Below w.heap.size w wr ∧ g < wr.heap.size) (fun q _ => (intOf q + 1).toNat)
      case atStart => exact ⟨l.length, Nat.le_refl _, rfl, _, HO.out, reachInit_length _, rfl, HBO.out, hg2⟩
      case round =>
        obtain ⟨j, hj, rfl, bs, ho, hbl, hrd, hbb, hgs⟩ := hrel
        cases j with
        | zero =>
          have hneg : ¬ (0 : Int) ≤ ((0 : Nat) : Int) - 1 := by omega
          go_wp2
          go_ret
          exact ⟨⟨_, rfl, hrd ▸ ho⟩, hbb⟩
        | succ i =>
          have hp : (0 : Int) ≤ ((i + 1 : Nat) : Int) - 1 := by omega
          have hie : ((i + 1 : Nat) : Int) - 1 = (i : Int) := by omega
          have HRD : Hid (reachDown l (i + 1) bs = reachL l) := hrd
          have HOB : Hid (Owb wr w.heap.size (.slice (some ⟨g, 0, none⟩) l.length cp) bs) := ho
          have HBB : Hid (Below w.heap.size w wr) := hbb
          have HBL : Hid (bs.length = l.length) := hbl
          clear hrd ho hbb hbl
          rw [hie]
          clear hie hp
          have hiz : (i : Int) < (l.length : Int) := by omega
          rcases (HN.out.below HBB.out).2 with h0 | ⟨xb, xo, rfl, hc⟩
          · omega
          obtain ⟨p0, p1, p2, p3, p4, p5⟩ := hc i (by omega)
          rw [nth_get (by omega : i < l.length)] at p0 p1 p2 p3 p4 p5
          clear hc
          have HPO := parts_ok (term_node HT.out (by omega : i < l.length))
          generalize hn : nth l i = n at p0 p1 p2 p3 p4 p5 HPO
          have HD : Hid (nth l i = n) := hn
          have HPO' : Hid (∀ k (hk : k < (parts n).length), 0 ≤ (parts n)[k] ∧ (parts n)[k] < i) := HPO
          clear hn HPO
          obtain ⟨wb, rfl⟩ : ∃ wb : World, wb = wr := ⟨_, rfl⟩
          go_wp2_with fail
          refine (sParts n _).mono ?_
          rintro e w1 ⟨⟨pa, pc, rfl, hpi⟩, hb1⟩
          have HP : Hid (WInts w1 wb.heap.size pa (parts n)) := hpi
          have HB1 : Hid (Below wb.heap.size wb w1) := hb1
          clear hpi hb1 p0 p1 p2 p3 p4 p5
          have hpl := parts_le n
          go_wp2_with fail
          have HOW1 : Hid (Owb w1 w.heap.size (.slice (some ⟨g, 0, none⟩) l.length cp) bs) := HOB.out.kept (S := fun _ => False) (Kept.ofBelow HB1.out) (fun _ _ h => h)
          go_loopw [7] (fun q wr => ∃ k : Nat, k ≤ (parts n).length ∧ q = .int .i64 k ∧ ∃ b3 : List Bool, Owb wr w.heap.size (.slice (some ⟨g, 0, none⟩) l.length cp) b3 ∧ b3.length = l.length ∧ flag b3 i = flag bs i ∧ (flag bs i = true → markAll b3 ((parts n).drop k) = markAll bs (parts n)) ∧ (flag bs i = false → b3 = bs) ∧ Kept (fun x => x = g) w1 wr) (fun q _ => (parts n).length - (intOf q).toNat)
          case atStart => exact ⟨0, Nat.zero_le _, rfl, bs, HOW1.out, HBL.out, rfl, fun _ => rfl, fun _ => rfl, Kept.refl _ _⟩
          case round =>
            obtain ⟨k, hk, rfl, b3, ho3, hl3, hf3, hm3, he3, hk3⟩ := hrel
            have HO3 : Hid (Owb wr w.heap.size (.slice (some ⟨g, 0, none⟩) l.length cp) b3) := ho3
            have HL3 : Hid (b3.length = l.length) := hl3
            have HF3 : Hid (flag b3 i = flag bs i) := hf3
            have HM3 : Hid (flag bs i = true → markAll b3 ((parts n).drop k) = markAll bs (parts n)) := hm3
            have HE3 : Hid (flag bs i = false → b3 = bs) := he3
            have HK3 : Hid (Kept (fun x => x = g) w1 wr) := hk3
            have cI : wr.cell? ⟨g, i, none⟩ = some (.bool (flag bs i)) := by
              have h9 := (ho3.cell' hl3 i (by omega)).1
              rw [flag_get, hf3] at h9
              exact h9
            have HBEL : Hid (Below w.heap.size w wr) := (HBB.out.trans (HB1.out.mono HBB.out.size)).trans (hk3.below (fun k hk => by subst hk; exact hg1) (Nat.le_trans HBB.out.size HB1.out.size))
            have HSZ : Hid (g < wr.heap.size) := by
              have h1 := HB1.out.size
              have h2 := hk3.size
              show g < _
              omega
            clear hl3 hf3 hm3 he3 hk3
            have HEND : Hid ((flag bs i = true → k = (parts n).length) → reachDown l i b3 = reachL l) := by
              show (flag bs i = true → k = (parts n).length) → reachDown l i b3 = reachL l
              intro hend
              rw [← HRD.out]
              show _ = reachDown l i (reachStep l bs i)
              congr 1
              unfold reachStep
              cases hfb : flag bs i
              · rw [HE3.out hfb]; rfl
              · have h9 := HM3.out hfb
                rw [hend hfb, List.drop_length] at h9
                rw [HD.out]
                exact h9
            by_cases hlt : k < (parts n).length
            · have hlz : (k : Int) < ((parts n).length : Int) := by omega
              cases hfb : flag bs i
              · rw [hfb] at cI
                clear ho3
                go_wp2
                go_roundw
                case rel => exact ⟨i, by omega, by go_num, b3, HO3.out, HL3.out, HEND.out (fun h => by rw [hfb] at h; cases h), HBEL.out, HSZ.out⟩
                case measure => simp [intOf]
              · rw [hfb] at cI
                rcases (HP.out.kept HK3.out (fun x hx e => by
                    subst hx
                    rcases HP.out.2 with h0 | ⟨pb, po, hpe, hpB, _⟩
                    · omega
                    · cases hpe; simp at e; omega)).2 with h0 | ⟨pb, po, rfl, hpB, hpc⟩
                · omega
                have q0 := (hpc k hlt).1
                obtain ⟨hx0, hx1⟩ := HPO'.out k hlt
                have HDR : Hid ((parts n).drop k = (parts n)[k] :: (parts n).drop (k + 1)) := List.drop_eq_getElem_cons hlt
                clear hpc
                generalize (parts n)[k] = x at q0 hx0 hx1 HDR
                obtain ⟨c1, c2⟩ := ho3.cell' HL3.out x.toNat (by omega)
                clear ho3
                have hxz : x < (l.length : Int) := by omega
                go_wp2
                go_roundw
                case rel =>
                  have hle : x.toNat < b3.length := by rw [HL3.out]; omega
                  refine ⟨k + 1, by omega, by go_num, b3.set x.toNat true, HO3.out.set' HL3.out _ _, by rw [List.length_set]; exact HL3.out, ?_, ?_, ?_, HK3.out.setCell rfl _⟩
                  · rw [flag_set hle, if_neg (by omega)]; exact HF3.out.trans hfb
                  · intro _
                    have h9 := HM3.out hfb
                    rw [HDR.out] at h9
                    exact h9
                  · intro h; cases h
                case measure => simp [intOf]; omega
            · clear ho3
              go_wp2
              go_roundw
              case rel => exact ⟨i, by omega, by go_num, b3, HO3.out, HL3.out, HEND.out (fun _ => by omega), HBEL.out, HSZ.out⟩
              case measure => simp [intOf]

end Go.Proofs.YtbnjndloeflgiaaGreat.Sp5

/- The walk of the model's list of reached nodes. -/
namespace Go.Proofs.YtbnjndloeflgiaaGreat.Sp6
open Go.RowKit
open Nd0 Nd1 Tm0 Tm1 Tm2 Ap0 Ap1 Sp2 Sp4 Sp5
set_option linter.unusedVariables false

end Go.Proofs.YtbnjndloeflgiaaGreat.Sp6

/- Walks of the exact laws' helpers that write: marks put into lists, and looked for. -/
namespace Go.Proofs.YtbnjndloeflgiaaGreat.Nd3
open Go.RowKit
open Nd0 Nd1
set_option linter.unusedVariables false

def WNodes (w : World) (B : Nat) (a : Option Addr) (l : List Nd) : Prop :=
  l.length ≤ maxLen ∧ (l.length = 0 ∨ ∃ b o, a = some ⟨b, o, none⟩ ∧ B ≤ b ∧ (∀ i (h : i < l.length), NodeAt w b (o + i * 6) l[i]) ∧ ∀ j, j < l.length * 6 → w.frozen? ⟨b, o + j, none⟩ = false)
theorem WNodes.nodes {w : World} {B : Nat} {a : Option Addr} {l : List Nd} (h : WNodes w B a l) : Nodes w a l := by
  refine ⟨h.1, ?_⟩
  rcases h.2 with h0 | ⟨b, o, ha, _, hc, _⟩
  · exact .inl h0
  · exact .inr ⟨b, o, ha, hc⟩

end Go.Proofs.YtbnjndloeflgiaaGreat.Nd3

/- Lists of nodes that are appended to: the law at the walk, and how they are read. -/
namespace Go.Proofs.YtbnjndloeflgiaaGreat.Ap2
open Go.RowKit
open Nd0 Nd3
set_option linter.unusedVariables false

theorem infoNode : (Tryz.prog.info? 50).map (fun i => (i.zero, i.size, i.bytes)) = some (some (.agg #[.int .i64 0, .int .i64 0, .int .i64 0, .int .i64 0, .int .i64 0, .int .i64 0]), 6, 48) := by kernel_rfl

def flat (l : List Nd) : List Value := l.flatMap Nd.cells
theorem cells_length (n : Nd) : n.cells.length = 6 := rfl
theorem flat_length (l : List Nd) : (flat l).length = l.length * 6 := by
  induction l with
  | nil => rfl
  | cons n l ih => show (n.cells ++ flat l).length = _; rw [List.length_append, ih, cells_length, List.length_cons]; omega
theorem flat_get (l : List Nd) : ∀ (i : Nat) (h : i < l.length) (j : Nat), j < 6 → (flat l)[i * 6 + j]? = (l[i].cells)[j]? := by
  induction l with
  | nil => intro i h; exact absurd h (Nat.not_lt_zero _)
  | cons n l ih =>
    intro i h j hj
    show (n.cells ++ flat l)[i * 6 + j]? = _
    cases i with
    | zero => rw [Nat.zero_mul, Nat.zero_add, List.getElem?_append_left (by rw [cells_length]; exact hj)]; rfl
    | succ i =>
      rw [List.getElem?_append_right (by rw [cells_length]; omega), cells_length, show (i + 1) * 6 + j - 6 = i * 6 + j by omega]
      exact ih i (by simpa using h) j hj
theorem flat_snoc (l : List Nd) (n : Nd) : flat (l ++ [n]) = flat l ++ n.cells := by simp [flat]

def Own (w : World) (B : Nat) (v : Value) (l : List Nd) : Prop := w.ownsRow B 50 6 v l.length (flat l)

theorem Own.form {w : World} {B : Nat} {v : Value} {l : List Nd} (h : Own w B v l) : ∃ a c, v = .slice a l.length c ∧ WNodes w B a l := by
  obtain ⟨h1, h2⟩ := h
  rcases h2 with ⟨rfl, h0⟩ | ⟨g, cap, cur, rfl, hb, hg, hn, hm, hs, ht⟩
  · have : l = [] := List.eq_nil_of_length_eq_zero h0
    subst this
    exact ⟨none, 0, rfl, Nat.zero_le _, .inl rfl⟩
  · have hcell : ∀ j, j < l.length * 6 → w.cell? ⟨g, j, none⟩ = (flat l)[j]? := by
      intro j hj
      rw [cell_of_row w g j cur _ _ hg, ← ht, List.getElem?_take_of_lt hj]
      simp
    refine ⟨_, _, rfl, by omega, .inr ⟨g, 0, rfl, hb, fun i hi => ?_, fun j hj => ?_⟩⟩
    · have hf := flat_get l i hi
      rw [Nat.zero_add]
      refine ⟨?_, ?_, ?_, ?_, ?_, ?_⟩
      · rw [hcell _ (by omega)]; exact hf 0 (by omega)
      · rw [hcell _ (by omega)]; exact hf 1 (by omega)
      · rw [hcell _ (by omega)]; exact hf 2 (by omega)
      · rw [hcell _ (by omega)]; exact hf 3 (by omega)
      · rw [hcell _ (by omega)]; exact hf 4 (by omega)
      · rw [hcell _ (by omega)]; exact hf 5 (by omega)
    · rw [Nat.zero_add]
      simp [World.frozen?, hg]
theorem Own.lit (w : World) (B : Nat) (hB : B ≤ w.heap.size) : Own (w.alloc (.cells #[] 50)) B (.slice (some ⟨w.heap.size, 0, none⟩) 0 0) [] :=
  World.ownsRow_lit w #[] 0 hB (Nat.zero_le _) rfl
theorem Own.lt {w : World} {B : Nat} {v : Value} {l : List Nd} (h : Own w B v l) : ∀ k, v.ownBlock = some k → B ≤ k ∧ k < w.heap.size := World.ownsRow.lt h
theorem Own.kept {w w' : World} {B : Nat} {v : Value} {l : List Nd} (h : Own w B v l) {S : Nat → Prop} (k : Kept S w w') (hs : ∀ i, v.ownBlock = some i → ¬ S i) : Own w' B v l := by
  refine ⟨h.1, ?_⟩
  rcases h.2 with hn | ⟨g, cap, cur, rfl, hb, hgg, rest⟩
  · exact .inl hn
  · refine .inr ⟨g, cap, cur, rfl, hb, ?_, rest⟩
    rw [k.block g (Array.getElem?_eq_some_iff.1 hgg).1 (hs g rfl)]
    exact hgg
theorem Own.len {w : World} {B : Nat} {v : Value} {l : List Nd} (h : Own w B v l) : ∃ a c, v = .slice a l.length c := by
  obtain ⟨a, c, hv, _⟩ := h.form; exact ⟨a, c, hv⟩

theorem app_node {ops : Array Oper} {rest : List Oper} {o : Oper} {a : Act} {Q : Exit → Act → World → Prop} (W : World) (hgd : o.guard = none) (s x : Operand)
    (ho : o.op = .call { callee := .builtin .append, args := #[s, x], argTypes := #[24, 24] })
    (B : Nat) (v : Value) (l : List Nd) (y : Nd) (hs : a.eval s = v) (G : Nat) (hx : a.eval x = .slice (some ⟨G, 0, none⟩) 1 1) (hG : G = W.heap.size)
    (hown : Own W B v l) (hB : B ≤ W.heap.size) (hlen : l.length ≤ 1048576)
    (h : ∀ g cap w', Own w' B (.slice (some ⟨g, 0, none⟩) (l.length + 1) cap) (l ++ [y]) → Kept (fun k => v.ownBlock = some k) W w' → (v.ownBlock = some g ∨ W.heap.size ≤ g) → wpList Tryz.prog ops Q rest (a.put o.dst (.slice (some ⟨g, 0, none⟩) (l.length + 1) cap)) w') :
    wpList Tryz.prog ops Q (o :: rest) a (W.alloc (.cells #[.int .i64 y.op, .int .i64 y.w, .int .i64 y.k, .int .i64 y.a, .int .i64 y.b, .int .i64 y.c] 50)) := by
  subst hG
  obtain ⟨i, hi, hzz⟩ := Option.map_eq_some_iff.1 infoNode
  simp only [Prod.mk.injEq] at hzz
  obtain ⟨hz, hsz, hb⟩ := hzz
  refine wpList_append_lies (W.alloc (.cells #[.int .i64 y.op, .int .i64 y.w, .int .i64 y.k, .int .i64 y.a, .int .i64 y.b, .int .i64 y.c] 50)) hgd s x 24 ho B 50 i _ 6 48 Tryz.underlying24 hi hz hsz hb rfl (by omega) v l.length (flat l) hs (World.ownsRow.alloc hown _)
    ⟨W.heap.size, 0, none⟩ 1 1 y.cells hx rfl ?_ ?_ (by omega) (by unfold maxLen; omega) (by omega) (by simp; omega) _ rfl ?_
  · intro j u hu
    exact World.news_of_block (heap_alloc_new W _) j u hu
  · intro u hu
    simp [Nd.cells] at hu
    rcases hu with rfl | rfl | rfl | rfl | rfl | rfl <;> rfl
  · intro g cap w' h1 h2 h3 h4
    refine h g cap w' ?_ ?_ ?_
    · unfold Own
      rw [flat_snoc, List.length_append]
      exact h1
    · have k1 : Kept (fun k => v.ownBlock = some k) W (W.alloc (.cells #[.int .i64 y.op, .int .i64 y.w, .int .i64 y.k, .int .i64 y.a, .int .i64 y.b, .int .i64 y.c] 50)) := (Kept.refl _ W).alloc _
      exact k1.trans ⟨h2.os, h2.tape, h2.output, h2.size, fun k hk hn => h2.block k hk (fun e => hn e.symm)⟩
    · rcases h3 with h3 | h3
      · exact .inl h3
      · exact .inr (by rw [h3]; simp)

end Go.Proofs.YtbnjndloeflgiaaGreat.Ap2
