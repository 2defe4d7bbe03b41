/- Small texts of mine, one behind the other. -/
import Derived.WalkSpells
import Derived.Deep.Light
import Derived.Test.YtgfekhgeopflcaaGreatSp3
import Derived.Test.YtgfekhgeopflcaaGreatPkT614
import Derived.Test.YtgfekhgeopflcaaGreatPkT67
import Derived.Test.YtgfekhgeopflcaaGreatPkT61
import Derived.Test.YtgfekhgeopflcaaGreatPkT62
import Derived.Test.YtgfekhgeopflcaaGreatPkT620
import Derived.Test.YtgfekhgeopflcaaGreatPkT619
import Derived.Test.YtgfekhgeopflcaaGreatPkT615
import Derived.Test.YtgfekhgeopflcaaGreatPkT627
import Derived.Test.YtgfekhgeopflcaaGreatPkT613
import Derived.Test.YtgfekhgeopflcaaGreatPkT610
/- The walk of the model's test of a term. -/
namespace Go.Proofs.YtgfekhgeopflcaaGreat.Sp4
open Go.RowKit
open Nd0 Nd1 Tm0 Ap0 Sp2 Sp3
set_option linter.unusedVariables false

set_option maxHeartbeats 1000000 in
theorem sTermOk (w : World) (a : Option Addr) (l : List Nd) (c : Nat) (hN : Nodes w a l) :
    Calls Tryz.prog 31 #[.slice a l.length c] w fun e w' => e = .returned (.bool (termOk l)) ∧ Below w.heap.size w w' := by
  have HN : Hid (Nodes w a l) := hN
  have hm := hN.1
  unfold maxLen at hm
  clear hN
  by_cases hl : 1 ≤ l.length ∧ l.length ≤ 80
  · have hd : decide (1 ≤ (l.length : Int) ∧ (l.length : Int) ≤ 80) = true := by simp; omega
    obtain ⟨hl1, hl2⟩ := hl
    go_enter Tryz.func31, Tryz.ntmps31
    go_wp2_with (go_at_call 30; refine (sIn _ _ _ _).mono ?_; rintro e w' ⟨rfl, rfl⟩)
    go_loopw [3] (fun q wr => ∃ k : Nat, k ≤ l.length ∧ q = .int .i64 k ∧ Below w'.heap.size w' wr ∧ ∀ j, j < k → nodeOk l j = true) (fun q _ => l.length - (intOf q).toNat)
    case atStart => exact ⟨0, Nat.zero_le _, rfl, Below.refl _ _, fun j hj => by omega⟩
    case round =>
      obtain ⟨k, hk, rfl, hb, hall⟩ := hrel
      have HB : Hid (Below w'.heap.size w' wr) := hb
      have HA : Hid (∀ j, j < k → nodeOk l j = true) := hall
      clear hb hall
      by_cases hlt : k < l.length
      · have hlz : (k : Int) < (l.length : Int) := by omega
        have HS := sNode wr a l c k hlt (by omega) (HN.out.below HB.out) (fun j hj => node_width (HA.out j hj))
        have HSH : Hid (Calls Tryz.prog 43 #[.slice a l.length c, .int .i64 k] wr fun e w' => e = .returned (.bool (nodeOk l k)) ∧ Below wr.heap.size wr w') := HS
        clear HS
        cases hno : nodeOk l k
        · have HT : Hid (termOk l = false) := term_bad k hlt hno
          go_wp2_with fail
          refine HSH.out.mono ?_
          rintro e w2 ⟨rfl, hb2⟩
          have HB2 : Hid (Below w'.heap.size w' w2) := HB.out.trans (hb2.mono HB.out.size)
          clear hb2
          go_wp2
          go_ret
          exact ⟨ret_bool HT.out.symm, HB2.out⟩
        · go_wp2_with fail
          refine HSH.out.mono ?_
          rintro e w2 ⟨rfl, hb2⟩
          have HB2 : Hid (Below w'.heap.size w' w2) := HB.out.trans (hb2.mono HB.out.size)
          clear hb2
          go_wp2
          go_roundw
          case rel =>
            refine ⟨k + 1, by omega, by go_num, HB2.out, fun j hj => ?_⟩
            by_cases e : j = k
            · subst e; exact hno
            · exact HA.out j (by omega)
          case measure => simp [intOf]; omega
      · have HT : Hid (termOk l = true) := term_good ⟨hl1, hl2⟩ (fun j hj => HA.out j (by omega))
        go_wp2
        go_ret
        exact ⟨ret_bool HT.out.symm, HB.out⟩
  · have hd : decide (1 ≤ (l.length : Int) ∧ (l.length : Int) ≤ 80) = false := by simp; omega
    have HT : Hid (termOk l = false) := term_long hl
    go_enter Tryz.func31, Tryz.ntmps31
    go_wp2_with (go_at_call 30; refine (sIn _ _ _ _).mono ?_; rintro e w' ⟨rfl, rfl⟩)
    go_ret
    exact ⟨ret_bool HT.out.symm, Below.refl _ _⟩

end Go.Proofs.YtgfekhgeopflcaaGreat.Sp4

/- The walk of the model's search for what the root reaches. -/
namespace Go.Proofs.YtgfekhgeopflcaaGreat.Sp5
open Go.RowKit
open Nd0 Nd1 Tm0 Tm1 Ap1 Sp2
set_option linter.unusedVariables false

set_option maxHeartbeats 4000000 in
theorem sReach (w : World) (a : Option Addr) (l : List Nd) (c : Nat) (hN : Nodes w a l) (hT : termOk l = true) :
    Calls Tryz.prog 32 #[.slice a l.length c] w fun e w' => (∃ v, e = .returned v ∧ Owb w' w.heap.size v (reachL l)) ∧ Below w.heap.size w w' := by
  have HN : Hid (Nodes w a l) := hN
  have HT : Hid (termOk l = true) := hT
  obtain ⟨hl1, hl2⟩ := term_len hT
  clear hN hT
  go_enter Tryz.func32, Tryz.ntmps32
  go_wp2
  go_loopw [3, 4] (fun v q wr => ∃ k : Nat, k ≤ l.length ∧ q = .int .i64 k ∧ Below w.heap.size w wr ∧ Owb wr w.heap.size v ((reachInit l.length).take k)) (fun _ q _ => l.length - (intOf q).toNat)
  case atStart => exact ⟨0, Nat.zero_le _, rfl, (Below.refl _ _).alloc (Nat.le_refl _) _, Owb.lit w _ (Nat.le_refl _)⟩
  case round =>
    obtain ⟨k, hk, rfl, hb, hown⟩ := hrel
    have HB : Hid (Below w.heap.size w wr) := hb
    have HO : Hid (Owb wr w.heap.size u3 ((reachInit l.length).take k)) := hown
    have hBs : w.heap.size ≤ wr.heap.size := hb.size
    clear hb
    by_cases hlt : k < l.length
    · clear hown
      have hlen : ((reachInit l.length).take k).length = k := by rw [List.length_take, reachInit_length]; omega
      have HT2 : Hid ((reachInit l.length).take (k + 1) = (reachInit l.length).take k ++ [((k : Int) == (l.length : Int) - 1)]) := by
        show (reachInit l.length).take (k + 1) = _
        rw [List.take_succ_eq_append_getElem (by rw [reachInit_length]; exact hlt)]
        congr 2
        simp only [reachInit, List.getElem_map, List.getElem_range]
        rw [Bool.eq_iff_iff]
        simp
        omega
      have hlz : (k : Int) < (l.length : Int) := by omega
      go_wp2_with (at_builtin; go_must (refine app_bool _ rfl _ _ rfl w.heap.size u3 ((reachInit l.length).take k) ((k : Int) == (l.length : Int) - 1) rfl rfl HO.out hBs (by omega) ?_; intro g cp w3 ho3 hk3 hg3))
      have HO3 : Hid (Owb w3 w.heap.size (.slice (some ⟨g, 0, none⟩) (((reachInit l.length).take k).length + 1) cp) ((reachInit l.length).take k ++ [((k : Int) == (l.length : Int) - 1)])) := ho3
      have HK3 : Hid (Kept (fun k => u3.ownBlock = some k) wr w3) := hk3
      clear ho3 hk3 hg3
      go_wp2
      go_roundw
      case rel =>
        refine ⟨k + 1, by omega, by go_num, HB.out.trans (HK3.out.below (fun k hk => (HO.out.lt k hk).1) hBs), ?_⟩
        rw [HT2.out]
        have h9 := HO3.out
        rw [hlen] at h9
        exact h9
      case measure => simp [intOf]; omega
    · have e2 : k = l.length := by omega
      subst e2
      have hown2 : Owb wr w.heap.size u3 (reachInit l.length) := by
        have h9 := hown
        rw [List.take_of_length_le (by rw [reachInit_length]; exact Nat.le_refl _)] at h9
        exact h9
      obtain ⟨g, cp, hv, hg1, hg2⟩ := hown2.at (by rw [reachInit_length]; exact hl1)
      rw [reachInit_length] at hv
      subst hv
      clear hown HO
      have HO : Hid (Owb wr w.heap.size (.slice (some ⟨g, 0, none⟩) l.length cp) (reachInit l.length)) := hown2
      clear hown2
      have HBO : Hid (Below w.heap.size w wr) := HB.out
      obtain ⟨wa, rfl⟩ : ∃ wa : World, wa = wr := ⟨_, rfl⟩
      go_wp2
      go_loopw [5] (fun q wr => ∃ j : Nat, j ≤ l.length ∧ q = .int .i64 ((j : Int) - 1) ∧ ∃ bs : List Bool, Owb wr w.heap.size (.slice (some ⟨g, 0, none⟩) l.length cp) bs ∧ bs.length = l.length ∧ reachDown l j bs = reachL l ∧ Below w.heap.size w wr ∧ g < wr.heap.size) (fun q _ => (intOf q + 1).toNat)
      case atStart => exact ⟨l.length, Nat.le_refl _, rfl, _, HO.out, reachInit_length _, rfl, HBO.out, hg2⟩
      case round =>
        obtain ⟨j, hj, rfl, bs, ho, hbl, hrd, hbb, hgs⟩ := hrel
        cases j with
        | zero =>
          have hneg : ¬ (0 : Int) ≤ ((0 : Nat) : Int) - 1 := by omega
          go_wp2
          go_ret
          exact ⟨⟨_, rfl, hrd ▸ ho⟩, hbb⟩
        | succ i =>
          have hp : (0 : Int) ≤ ((i + 1 : Nat) : Int) - 1 := by omega
          have hie : ((i + 1 : Nat) : Int) - 1 = (i : Int) := by omega
          have HRD : Hid (reachDown l (i + 1) bs = reachL l) := hrd
          have HOB : Hid (Owb wr w.heap.size (.slice (some ⟨g, 0, none⟩) l.length cp) bs) := ho
          have HBB : Hid (Below w.heap.size w wr) := hbb
          have HBL : Hid (bs.length = l.length) := hbl
          clear hrd ho hbb hbl
          rw [hie]
          clear hie hp
          have hiz : (i : Int) < (l.length : Int) := by omega
          rcases (HN.out.below HBB.out).2 with h0 | ⟨xb, xo, rfl, hc⟩
          · omega
          obtain ⟨p0, p1, p2, p3, p4, p5⟩ := hc i (by omega)
          rw [nth_get (by omega : i < l.length)] at p0 p1 p2 p3 p4 p5
          clear hc
          have HPO := parts_ok (term_node HT.out (by omega : i < l.length))
          generalize hn : nth l i = n at p0 p1 p2 p3 p4 p5 HPO
          have HD : Hid (nth l i = n) := hn
          have HPO' : Hid (∀ k (hk : k < (parts n).length), 0 ≤ (parts n)[k] ∧ (parts n)[k] < i) := HPO
          clear hn HPO
          obtain ⟨wb, rfl⟩ : ∃ wb : World, wb = wr := ⟨_, rfl⟩
          go_wp2_with fail
          refine (sParts n _).mono ?_
          rintro e w1 ⟨⟨pa, pc, rfl, hpi⟩, hb1⟩
          have HP : Hid (WInts w1 wb.heap.size pa (parts n)) := hpi
          have HB1 : Hid (Below wb.heap.size wb w1) := hb1
          clear hpi hb1 p0 p1 p2 p3 p4 p5
          have hpl := parts_le n
          go_wp2_with fail
          have HOW1 : Hid (Owb w1 w.heap.size (.slice (some ⟨g, 0, none⟩) l.length cp) bs) := HOB.out.kept (S := fun _ => False) (Kept.ofBelow HB1.out) (fun _ _ h => h)
          go_loopw [7] (fun q wr => ∃ k : Nat, k ≤ (parts n).length ∧ q = .int .i64 k ∧ ∃ b3 : List Bool, Owb wr w.heap.size (.slice (some ⟨g, 0, none⟩) l.length cp) b3 ∧ b3.length = l.length ∧ flag b3 i = flag bs i ∧ (flag bs i = true → markAll b3 ((parts n).drop k) = markAll bs (parts n)) ∧ (flag bs i = false → b3 = bs) ∧ Kept (fun x => x = g) w1 wr) (fun q _ => (parts n).length - (intOf q).toNat)
          case atStart => exact ⟨0, Nat.zero_le _, rfl, bs, HOW1.out, HBL.out, rfl, fun _ => rfl, fun _ => rfl, Kept.refl _ _⟩
          case round =>
            obtain ⟨k, hk, rfl, b3, ho3, hl3, hf3, hm3, he3, hk3⟩ := hrel
            have HO3 : Hid (Owb wr w.heap.size (.slice (some ⟨g, 0, none⟩) l.length cp) b3) := ho3
            have HL3 : Hid (b3.length = l.length) := hl3
            have HF3 : Hid (flag b3 i = flag bs i) := hf3
            have HM3 : Hid (flag bs i = true → markAll b3 ((parts n).drop k) = markAll bs (parts n)) := hm3
            have HE3 : Hid (flag bs i = false → b3 = bs) := he3
            have HK3 : Hid (Kept (fun x => x = g) w1 wr) := hk3
            have cI : wr.cell? ⟨g, i, none⟩ = some (.bool (flag bs i)) := by
              have h9 := (ho3.cell' hl3 i (by omega)).1
              rw [flag_get, hf3] at h9
              exact h9
            have HBEL : Hid (Below w.heap.size w wr) := (HBB.out.trans (HB1.out.mono HBB.out.size)).trans (hk3.below (fun k hk => by subst hk; exact hg1) (Nat.le_trans HBB.out.size HB1.out.size))
            have HSZ : Hid (g < wr.heap.size) := by
              have h1 := HB1.out.size
              have h2 := hk3.size
              show g < _
              omega
            clear hl3 hf3 hm3 he3 hk3
            have HEND : Hid ((flag bs i = true → k = (parts n).length) → reachDown l i b3 = reachL l) := by
              show (flag bs i = true → k = (parts n).length) → reachDown l i b3 = reachL l
              intro hend
              rw [← HRD.out]
              show _ = reachDown l i (reachStep l bs i)
              congr 1
              unfold reachStep
              cases hfb : flag bs i
              · rw [HE3.out hfb]; rfl
              · have h9 := HM3.out hfb
                rw [hend hfb, List.drop_length] at h9
                rw [HD.out]
                exact h9
            by_cases hlt : k < (parts n).length
            · have hlz : (k : Int) < ((parts n).length : Int) := by omega
              cases hfb : flag bs i
              · rw [hfb] at cI
                clear ho3
                go_wp2
                go_roundw
                case rel => exact ⟨i, by omega, by go_num, b3, HO3.out, HL3.out, HEND.out (fun h => by rw [hfb] at h; cases h), HBEL.out, HSZ.out⟩
                case measure => simp [intOf]
              · rw [hfb] at cI
                rcases (HP.out.kept HK3.out (fun x hx e => by
                    subst hx
                    rcases HP.out.2 with h0 | ⟨pb, po, hpe, hpB, _⟩
                    · omega
                    · cases hpe; simp at e; omega)).2 with h0 | ⟨pb, po, rfl, hpB, hpc⟩
                · omega
                have q0 := (hpc k hlt).1
                obtain ⟨hx0, hx1⟩ := HPO'.out k hlt
                have HDR : Hid ((parts n).drop k = (parts n)[k] :: (parts n).drop (k + 1)) := List.drop_eq_getElem_cons hlt
                clear hpc
                generalize (parts n)[k] = x at q0 hx0 hx1 HDR
                obtain ⟨c1, c2⟩ := ho3.cell' HL3.out x.toNat (by omega)
                clear ho3
                have hxz : x < (l.length : Int) := by omega
                go_wp2
                go_roundw
                case rel =>
                  have hle : x.toNat < b3.length := by rw [HL3.out]; omega
                  refine ⟨k + 1, by omega, by go_num, b3.set x.toNat true, HO3.out.set' HL3.out _ _, by rw [List.length_set]; exact HL3.out, ?_, ?_, ?_, HK3.out.setCell rfl _⟩
                  · rw [flag_set hle, if_neg (by omega)]; exact HF3.out.trans hfb
                  · intro _
                    have h9 := HM3.out hfb
                    rw [HDR.out] at h9
                    exact h9
                  · intro h; cases h
                case measure => simp [intOf]; omega
            · clear ho3
              go_wp2
              go_roundw
              case rel => exact ⟨i, by omega, by go_num, b3, HO3.out, HL3.out, HEND.out (fun _ => by omega), HBEL.out, HSZ.out⟩
              case measure => simp [intOf]

end Go.Proofs.YtgfekhgeopflcaaGreat.Sp5

/- The walk of the model's list of reached nodes. -/
namespace Go.Proofs.YtgfekhgeopflcaaGreat.Sp6
open Go.RowKit
open Nd0 Nd1 Tm0 Tm1 Tm2 Ap0 Ap1 Sp2 Sp4 Sp5
set_option linter.unusedVariables false

end Go.Proofs.YtgfekhgeopflcaaGreat.Sp6

/- The walk of the model's Prune. -/
namespace Go.Proofs.YtgfekhgeopflcaaGreat.Sp7
open Go.RowKit
open Nd0 Nd1 Nd3 Tm0 Tm1 Tm2 Tm3 Ap0 Ap1 Ap2 Sp2 Sp4 Sp5
set_option linter.unusedVariables false

theorem nodeAt_of {w : World} {b o : Nat} {l : List Nd} (h : Nodes w (some ⟨b, o, none⟩) l) {i : Nat} (hi : i < l.length) : NodeAt w b (o + i * 6) (nth l i) := by
  rcases h.2 with h0 | ⟨b', o', hb, hc⟩
  · omega
  · cases hb
    have h9 := hc i hi
    rw [nth_get hi] at h9
    exact h9
theorem ows_cell {w : World} {B g n cap : Nat} {l : List Int} (h : Ows w B (.slice (some ⟨g, 0, none⟩) n cap) l) {i : Nat} (hi : i < l.length) : w.cell? ⟨g, i, none⟩ = some (.int .i64 l[i]) := by
  obtain ⟨a, c, hv, hw⟩ := h.form
  cases hv
  rcases hw.2 with h0 | ⟨b, o, hb, _, hc⟩
  · omega
  · cases hb
    have h9 := (hc i hi).1
    rw [Nat.zero_add] at h9
    exact h9
theorem place_at {l : List Nd} {k : Nat} {y x : Int} (h0 : 0 ≤ x) (h1 : x < k) (h : x.toNat < (places l k ++ [y]).length) : (places l k ++ [y])[x.toNat] = plc l x := by
  have hl : x.toNat < (places l k).length := by rw [places_length]; omega
  rw [List.getElem_append_left hl, places_get]
  unfold plc
  rw [Int.toNat_natCast]
theorem keep {B : Nat} {u v w : World} (h : Below B u v) (k : Below v.heap.size v w) (hB : B ≤ v.heap.size) : Below B u w := h.trans (k.mono hB)

end Go.Proofs.YtgfekhgeopflcaaGreat.Sp7

/- Lists of lists of flags: the law at the walk, and how they are read. -/
namespace Go.Proofs.YtgfekhgeopflcaaGreat.Ap3
open Go.RowKit
open Nd0 Tm1 Tm4
set_option linter.unusedVariables false

theorem infoRow : (Tryz.prog.info? 53).map (fun i => (i.zero, i.size, i.bytes)) = some (some (.slice none 0 0), 1, 24) := by kernel_rfl

/-- The slice v, in a block from B on, is the slices xs and may be appended to. -/
def Owv (w : World) (B : Nat) (v : Value) (xs : List Value) : Prop := w.ownsRow B 53 1 v xs.length xs
theorem Owv.lit (w : World) (B : Nat) (hB : B ≤ w.heap.size) : Owv (w.alloc (.cells #[] 53)) B (.slice (some ⟨w.heap.size, 0, none⟩) 0 0) [] :=
  World.ownsRow_lit w #[] 0 hB (Nat.zero_le _) rfl
theorem Owv.lt {w : World} {B : Nat} {v : Value} {l : List Value} (h : Owv w B v l) : ∀ k, v.ownBlock = some k → B ≤ k ∧ k < w.heap.size := World.ownsRow.lt h
theorem Owv.kept {w w' : World} {B : Nat} {v : Value} {l : List Value} (h : Owv w B v l) {S : Nat → Prop} (k : Kept S w w') (hs : ∀ i, v.ownBlock = some i → ¬ S i) : Owv w' B v l := by
  refine ⟨h.1, ?_⟩
  rcases h.2 with hn | ⟨g, cap, cur, rfl, hb, hgg, rest⟩
  · exact .inl hn
  · refine .inr ⟨g, cap, cur, rfl, hb, ?_, rest⟩
    rw [k.block g (Array.getElem?_eq_some_iff.1 hgg).1 (hs g rfl)]
    exact hgg
theorem Owv.at {w : World} {B : Nat} {v : Value} {l : List Value} (h : Owv w B v l) (hl : 1 ≤ l.length) : ∃ g c, v = .slice (some ⟨g, 0, none⟩) l.length c ∧ (∀ i, i < l.length → w.cell? ⟨g, i, none⟩ = l[i]?) := by
  rcases h.2 with ⟨rfl, h0⟩ | ⟨g, cap, cur, rfl, hb, hg, hn, hm, hs, ht⟩
  · omega
  · refine ⟨g, cap, rfl, fun i hi => ?_⟩
    rw [cell_of_row w g i cur _ _ hg]
    have e : (cur.toList.take (l.length * 1))[i]? = l[i]? := by rw [ht]
    rw [List.getElem?_take_of_lt (by omega)] at e
    simpa using e

/-- The slices vs hold the rows, each of eight flags, none of them in block v's. -/
def Rws (w : World) (v : Value) (vs : List Value) (rows : List (List Bool)) : Prop :=
  vs.length = rows.length ∧ ∀ j, j < rows.length → ∃ g c, vs[j]? = some (.slice (some ⟨g, 0, none⟩) 8 c) ∧ g < w.heap.size ∧ v.ownBlock ≠ some g ∧ ∀ x, x < 8 → w.cell? ⟨g, x, none⟩ = some (.bool (flag (rows.getD j []) x))
theorem Rws.kept {w w' : World} {v : Value} {vs : List Value} {rows : List (List Bool)} (h : Rws w v vs rows) (k : Kept (fun b => v.ownBlock = some b) w w') : Rws w' v vs rows := by
  refine ⟨h.1, fun j hj => ?_⟩
  obtain ⟨g, c, h1, h2, h3, h4⟩ := h.2 j hj
  exact ⟨g, c, h1, Nat.lt_of_lt_of_le h2 k.size, h3, fun x hx => by rw [k.cell (p := ⟨g, x, none⟩) h2 h3]; exact h4 x hx⟩
theorem Rws.below {w w' : World} {v : Value} {vs : List Value} {rows : List (List Bool)} (h : Rws w v vs rows) (k : Below w.heap.size w w') : Rws w' v vs rows := h.kept (Kept.ofBelow k)

end Go.Proofs.YtgfekhgeopflcaaGreat.Ap3

/- The walks of the model's tests of operators, and of its search for nodes that hold quantifiers. -/
namespace Go.Proofs.YtgfekhgeopflcaaGreat.Sp10
open Go.RowKit
open Nd0 Nd1 Tm0 Tm1 Tm5 Ap1 Sp2
open Sp7 (nodeAt_of)
set_option linter.unusedVariables false

set_option maxHeartbeats 400000 in
theorem sQuant (op : Int) (w : World) :
    Calls Tryz.prog 33 #[.int .i64 op] w fun e w' => e = .returned (.bool (quant op)) ∧ w' = w := by
  cases h1 : (op == 19) <;> cases h2 : (op == 20)
  all_goals
    go_enter Tryz.func33, Tryz.ntmps33
    go_wp2
    go_ret
    exact ⟨ret_bool (by unfold quant; rw [h1, h2]; rfl), rfl⟩

end Go.Proofs.YtgfekhgeopflcaaGreat.Sp10

/- The walk of the model's l04Fits. -/
namespace Go.Proofs.YtgfekhgeopflcaaGreat.Sv5
open Go.RowKit
open Nd0 Pl1 Tm0 Tm1 Tm5 Tm6 Tm8 Ap0 Ap6 Tr0 Rw0 Vl1 Vl2 Vm0 Vm1 Kp1 Bt0
open Sp10 (sQuant)
open Sp2 (sParts)
open Wd1 (spow sWordOk ret_int ret_bool)
set_option linter.unusedVariables false

def rowV (l : List Nd) (n : Nd) (v : Nat) : Nat := if quant n.op ∧ n.k = (v : Int) then 0 else preA l n v
def rowI (l : List Nd) (n : Nd) : List Int := (List.range 8).map fun v => (rowV l n v : Int)
theorem rowI_length (l : List Nd) (n : Nd) : (rowI l n).length = 8 := by simp [rowI]
theorem rowI_wd (l : List Nd) (n : Nd) {v : Nat} (hv : v < 8) : wd (rowI l n) (v : Int) = (rowV l n v : Int) := by
  rw [← wd_get (by rw [rowI_length]; exact hv)]; simp [rowI]
theorem rowI_take (l : List Nd) (n : Nd) {v : Nat} (hv : v < 8) : (rowI l n).take (v + 1) = (rowI l n).take v ++ [(rowV l n v : Int)] := by
  rw [List.take_succ_eq_append_getElem (by rw [rowI_length]; exact hv)]
  congr 2
  simp [rowI]
def rowsTo (l : List Nd) (k : Nat) : List (List Int) := (List.range k).map fun j => rowI l (nth l j)
theorem rowsTo_length (l : List Nd) (k : Nat) : (rowsTo l k).length = k := by simp [rowsTo]
theorem rowsTo_succ (l : List Nd) (k : Nat) : rowsTo l (k + 1) = rowsTo l k ++ [rowI l (nth l k)] := by simp [rowsTo, List.range_succ]
theorem rowsTo_get (l : List Nd) {j k : Nat} (h : j < k) : (rowsTo l k).getD j [] = rowI l (nth l j) := by
  unfold rowsTo
  rw [List.getD_eq_getElem?_getD, List.getElem?_map, List.getElem?_range h]; rfl
/-- Node j has a row, this one. -/
def Good (l : List Nd) (j : Nat) : Prop := ∃ r, needT (tr l j) = some r ∧ ∀ v, v < 8 → r.getD v 0 = rowV l (nth l j) v
theorem Good.some {l : List Nd} {j : Nat} (h : Good l j) : (needT (tr l j)).isSome = true := by
  obtain ⟨r, hr, _⟩ := h; rw [hr]; rfl
theorem Good.row {l : List Nd} {j : Nat} (h : Good l j) {v : Nat} (hv : v < 8) : (rowN l j).getD v 0 = rowV l (nth l j) v := by
  obtain ⟨r, hr, h2⟩ := h
  unfold rowN; rw [hr]; exact h2 v hv
theorem Good.bd {l : List Nd} (hT : termOk l = true) {j : Nat} (hj : j < l.length) (h : Good l j) {v : Nat} (hv : v < 8) : rowV l (nth l j) v < 2 ^ 9 := by
  obtain ⟨r, hr, h2⟩ := h
  rw [← h2 v hv]
  exact need_bd _ r (rt_all (down_of hT) (fun k hk => term_node hT hk) j hj).1 hr v
theorem pre_bd {l : List Nd} (hT : termOk l = true) {k : Nat} (hk : k < l.length) (hG : ∀ j, j < k → Good l j) {v : Nat} (hv : v < 8) : ∀ d, d ≤ (parts (nth l k)).length → preN l (nth l k) v d < 2 ^ 9 := by
  intro d
  induction d with
  | zero =>
    intro _
    have h8 := (node_width (term_node hT hk)).2
    show (if _ then _ else _) < _
    split
    · exact Nat.lt_of_le_of_lt (Nat.pow_le_pow_right (by omega) (show (nth l k).w.toNat ≤ 8 by omega)) (by decide)
    · decide
  | succ d ih =>
    intro hd
    show _ ||| _ < _
    refine Nat.or_lt_two_pow (ih (by omega)) ?_
    have hp := down_of hT k hk ((parts (nth l k)).getD d 0) (by rw [List.getD_eq_getElem?_getD, List.getElem?_eq_getElem (by omega)]; exact List.getElem_mem _)
    have hg := hG ((parts (nth l k)).getD d 0).toNat (by omega)
    rw [hg.row hv]
    exact hg.bd hT (by omega) hv
theorem fit_none {l : List Nd} {e : List Int} (h : needT (root l) = none) : fitT (root l) e = false := by unfold fitT; rw [h]
theorem fit_some {l : List Nd} {e : List Int} {r : List Nat} (h : needT (root l) = some r) : fitT (root l) e = fitR r e := by unfold fitT; rw [h]

end Go.Proofs.YtgfekhgeopflcaaGreat.Sv5

/- The program's sets of widths. -/
namespace Go.Proofs.YtgfekhgeopflcaaGreat.Pv5
open Go.RowKit
open Nd0 Pl1 Vl1 Vl2
open Wd1 (ret_int ret_bool)
open Pg1 (iWordOk)
set_option linter.unusedVariables false

theorem and1 {d : Nat} (h : d < 2 ^ 9) : (bits .and .u16 (d : Int) 1 == 1) = decide (d % 2 = 1) := by
  have h2 : ∀ d : Fin 512, (bits .and .u16 ((d : Nat) : Int) 1 == 1) = decide ((d : Nat) % 2 = 1) := by decide +kernel
  exact h2 ⟨d, h⟩
theorem or16 {a b : Nat} (ha : a < 2 ^ 9) (hb : b < 2 ^ 9) : bits .or .u16 (a : Int) (b : Int) = ((a ||| b : Nat) : Int) := by
  have e : bits .or .u16 (a : Int) (b : Int) = IntKind.u16.wrap ((BitVec.ofInt 16 (a : Int) ||| BitVec.ofInt 16 (b : Int)).toNat : Int) := rfl
  have h := Nat.or_lt_two_pow ha hb
  rw [e, BitVec.toNat_or, BitVec.ofInt_natCast, BitVec.ofInt_natCast, BitVec.toNat_ofNat, BitVec.toNat_ofNat, Nat.mod_eq_of_lt (by omega), Nat.mod_eq_of_lt (by omega)]
  unfold IntKind.wrap
  simp [IntKind.signed, IntKind.bits]
  omega
theorem not16 {a j : Nat} (ha : a < 2 ^ 9) (hj : j ≤ 8) : (bits .andNot .u16 (a : Int) ((2 ^ j : Nat) : Int) != 0) = decide (a ≠ 0 ∧ a ≠ 2 ^ j) := by
  have h2 : ∀ j : Fin 9, ∀ d : Fin 512, (bits .andNot .u16 ((d : Nat) : Int) ((2 ^ (j : Nat) : Nat) : Int) != 0) = decide ((d : Nat) ≠ 0 ∧ (d : Nat) ≠ 2 ^ (j : Nat)) := by decide +kernel
  exact h2 ⟨j, by omega⟩ ⟨a, ha⟩
theorem wrap16 {j : Nat} (h8 : j ≤ 8) : IntKind.u16.wrap ((2 ^ j : Nat) : Int) = ((2 ^ j : Nat) : Int) := by
  have h2 : ∀ j : Fin 9, IntKind.u16.wrap ((2 ^ (j : Nat) : Nat) : Int) = ((2 ^ (j : Nat) : Nat) : Int) := by decide +kernel
  exact h2 ⟨j, by omega⟩
set_option maxHeartbeats 1000000 in
/-- Whether a number is a word of each width of a set. -/
def wordsB (m : Nat) (k : Int) : Bool := (List.range 8).all fun (j : Nat) => !m.testBit (j + 1) || wok ((j : Int) + 1) k
theorem words_iff {m : Nat} {k : Int} : wordsB m k = true ↔ ∀ j, 1 ≤ j → j ≤ 8 → m.testBit j = true → wok (j : Int) k = true := by
  unfold wordsB
  rw [List.all_eq_true]
  constructor
  · intro h j h1 h8 hb
    have := h (j - 1) (List.mem_range.2 (by omega))
    rw [show j - 1 + 1 = j by omega, hb] at this
    rw [show ((j - 1 : Nat) : Int) + 1 = (j : Int) by omega] at this
    simpa using this
  · intro h j hj
    have hj := List.mem_range.1 hj
    cases hb : m.testBit (j + 1)
    · rfl
    · have := h (j + 1) (by omega) (by omega) hb
      push_cast at this
      simp [this]
end Go.Proofs.YtgfekhgeopflcaaGreat.Pv5
