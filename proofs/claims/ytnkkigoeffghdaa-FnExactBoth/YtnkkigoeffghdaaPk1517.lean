/- Small texts of mine, one behind the other. -/
import Derived.Test.YtnkkigoeffghdaaPk1510
import Derived.Test.YtnkkigoeffghdaaPk158
import Derived.Test.YtnkkigoeffghdaaPk154
import Derived.Test.YtnkkigoeffghdaaPk1514
import Derived.Test.YtnkkigoeffghdaaPk1512
/- The program's walk over a term, for nodes. -/
namespace Go.Proofs.Ytnkkigoeffghdaa.Aw2
open Go.RowKit
open Nd0 Nd3 Pl1 Tm0 Tm1 Tm8 Pg1 Pg2 Aq0
open Ap2 (app_node)
open Nd4 (makeNodes zeros zeros_get)
open Aw1 (nv)
set_option linter.unusedVariables false

/-- The first n nodes of block g are what f tells, and may be written. -/
def RowN (w : World) (g n : Nat) (f : Nat → Nd) : Prop := ∀ i, i < n → NodeAt w g (i * 6) (f i) ∧ ∀ j, j < 6 → w.frozen? ⟨g, i * 6 + j, none⟩ = false
theorem RowN.kept {w w' : World} {g n : Nat} {f : Nat → Nd} (h : RowN w g n f) {S : Nat → Prop} (k : Kept S w w') (hs : ¬ S g) : RowN w' g n f := fun i hi => by
  obtain ⟨⟨c0, c1, c2, c3, c4, c5⟩, hf⟩ := h i hi
  have hb : g < w.heap.size := lt_of_cell (p := ⟨g, i * 6, none⟩) c0
  exact ⟨⟨by rw [k.cell hb hs]; exact c0, by rw [k.cell hb hs]; exact c1, by rw [k.cell hb hs]; exact c2, by rw [k.cell hb hs]; exact c3, by rw [k.cell hb hs]; exact c4, by rw [k.cell hb hs]; exact c5⟩, fun j hj => by rw [k.frozen (p := ⟨g, i * 6 + j, none⟩) hb hs]; exact hf j hj⟩
theorem RowN.below {w w' : World} {g n : Nat} {f : Nat → Nd} (h : RowN w g n f) (k : Below w.heap.size w w') : RowN w' g n f := h.kept (S := fun _ => False) (Kept.ofBelow k) (fun h => h)
theorem RowN.congr {w : World} {g n : Nat} {f f' : Nat → Nd} (h : RowN w g n f) (e : ∀ i, i < n → f i = f' i) : RowN w g n f' := fun i hi => by rw [← e i hi]; exact h i hi
theorem RowN.lt {w : World} {g n : Nat} {f : Nat → Nd} (h : RowN w g n f) (hn : 0 < n) : g < w.heap.size := (h 0 hn).1.lt
theorem RowN.set {w : World} {g n : Nat} {f : Nat → Nd} (h : RowN w g n f) {p : Nat} (hp : p < n) (v : Nd) : RowN (setNode w g (p * 6) v) g n (fun i => if i = p then v else f i) := by
  intro i hi
  refine ⟨?_, fun j hj => by rw [setNode_frozen]; exact (h i hi).2 j hj⟩
  by_cases e : i = p
  · subst e
    dsimp only
    rw [if_pos rfl]
    exact setNode_same (h i hi).1
  · dsimp only
    rw [if_neg e]
    exact setNode_other (h i hi).1 (by omega)
theorem RowN.new (w : World) (n T : Nat) : RowN (w.alloc (.cells (zeros n) T)) w.heap.size n (fun _ => Nd.zero) := fun i hi => ⟨Nd4.zeros_at w n T i hi, fun j hj => by simp⟩

/-- What a walk's closure tells of node i, in every world that comes of w0, given what was said of the node's parts. -/
def TellN (w0 : World) (k : Nat) (cap : Array Value) (l : List Nd) (F : Nat → Nd → List Nd → Nd) : Prop :=
  ∀ (W : World) (i : Nat) (a : Option Addr) (c : Nat), i < l.length → Below w0.heap.size w0 W → Nodes W a (said Nd.zero F l i) →
    Calls Try.prog k (#[.int .i64 (i : Int), nv (nth l i), .slice a (said Nd.zero F l i).length c] ++ cap) W fun e w' => e = .returned (nv (F i (nth l i) (said Nd.zero F l i))) ∧ Below W.heap.size W w'

set_option maxRecDepth 100000 in
set_option maxHeartbeats 4000000 in
theorem wNode (k : Nat) (cap : Array Value) (F : Nat → Nd → List Nd → Nd) (w : World) (a : Option Addr) (l : List Nd) (c : Nat) (hN : Nodes w a l) (hD : Down l) (hl : l.length ≤ 1048576)
    (hk : ∀ args w, (callFunc k args).run Try.prog w = .ok (.enter k args) w) (hT : TellN w k cap l F) :
    Calls Try.prog 67 #[.slice a l.length c, .func (.func k) #[] cap] w fun e w' => (∃ a', e = .returned (.slice a' l.length l.length) ∧ WNodes w' w.heap.size a' (wk Nd.zero F l l.length)) ∧ Below w.heap.size w w' := by
  have HN : Hid (Nodes w a l) := hN
  have HD : Hid (Down l) := hD
  have HT : Hid (TellN w k cap l F) := hT
  clear hN hD hT
  have hmk := makeNodes l.length hl w
  obtain ⟨g, hg⟩ : ∃ g : Nat, g = w.heap.size := ⟨_, rfl⟩
  have HG : Hid (g = w.heap.size) := hg
  have HR0 : Hid (RowN (w.alloc (.cells (zeros l.length) 55)) g l.length (fun i => (wk Nd.zero F l 0).getD i Nd.zero)) := by
    rw [hg]
    exact RowN.new _ _ _
  have HB0 : Hid (Below w.heap.size w (w.alloc (.cells (zeros l.length) 55))) := (Below.refl _ _).alloc (Nat.le_refl _) _
  go_enter Try.func67, Try.ntmps67
  go_wp2_with fail
  clear hmk
  rw [← hg]
  clear hg
  generalize w.alloc (.cells (zeros l.length) 55) = wa at HR0 HB0 ⊢
  go_loopw [16] (fun q wr => ∃ j : Nat, j ≤ l.length ∧ q = .int .i64 j ∧ RowN wr g l.length (fun i => (wk Nd.zero F l j).getD i Nd.zero) ∧ Below w.heap.size w wr) (fun q _ => l.length - (intOf q).toNat)
  case atStart => exact ⟨0, Nat.zero_le _, rfl, HR0.out, HB0.out⟩
  case round =>
    clear HR0 HB0
    obtain ⟨j, hj, rfl, hr, hb⟩ := hrel
    obtain ⟨wb, rfl⟩ : ∃ wb : World, wb = wr := ⟨_, rfl⟩
    have HR : Hid (RowN wb g l.length (fun i => (wk Nd.zero F l j).getD i Nd.zero)) := hr
    have HB : Hid (Below w.heap.size w wb) := hb
    have hBs : w.heap.size ≤ wb.heap.size := hb.size
    clear hr hb
    by_cases hlt : j < l.length
    · have hlz : (j : Int) < (l.length : Int) := by omega
      rcases (HN.out.below HB.out).2 with h0 | ⟨xb, xo, rfl, hc⟩
      · omega
      obtain ⟨p0, p1, p2, p3, p4, p5⟩ := hc j hlt
      rw [nth_get hlt] at p0 p1 p2 p3 p4 p5
      clear hc
      have HDJ : Hid (∀ p ∈ parts (nth l j), 0 ≤ p ∧ p < (j : Int)) := HD.out j hlt
      have HSA : Hid (said Nd.zero F l j = (parts (nth l j)).map fun p => (wk Nd.zero F l j).getD p.toNat Nd.zero) := rfl
      have HTJ : Hid (∀ (W : World) (a : Option Addr) (c : Nat), Below w.heap.size w W → Nodes W a (said Nd.zero F l j) →
        Calls Try.prog k (#[.int .i64 (j : Int), nv (nth l j), .slice a (said Nd.zero F l j).length c] ++ cap) W fun e w' => e = .returned (nv (F j (nth l j) (said Nd.zero F l j))) ∧ Below W.heap.size W w') := fun W a c h1 h2 => HT.out W j a c hlt h1 h2
      have HWK : Hid (∀ i, (wk Nd.zero F l (j + 1)).getD i Nd.zero = if i = j then F j (nth l j) (said Nd.zero F l j) else (wk Nd.zero F l j).getD i Nd.zero) := fun i => wk_set Nd.zero F l j i
      generalize hn : nth l j = n at p0 p1 p2 p3 p4 p5 HDJ HSA HTJ HWK
      clear hn
      generalize F j n (said Nd.zero F l j) = y at HTJ HWK
      generalize said Nd.zero F l j = sd at HSA HTJ
      have hX : ∃ X : Nat → Nd, X = fun i => (wk Nd.zero F l j).getD i Nd.zero := ⟨_, rfl⟩
      obtain ⟨X, hX⟩ := hX
      have HRX : Hid (RowN wb g l.length X) := by rw [hX]; exact HR.out
      have HSX : Hid (sd = (parts n).map fun p => X p.toNat) := by show _ = _; rw [hX]; exact HSA.out
      have HWX : Hid (∀ i, (wk Nd.zero F l (j + 1)).getD i Nd.zero = if i = j then y else X i) := by rw [hX]; exact HWK.out
      clear hX HSA HWK HR
      have hgl : g < wb.heap.size := HRX.out.lt (by omega)
      obtain ⟨W1, hW1⟩ : ∃ W1 : World, W1 = wb.alloc (.cells #[.int .i64 n.op, .int .i64 n.w, .int .i64 n.k, .int .i64 n.a, .int .i64 n.b, .int .i64 n.c] 55) := ⟨_, rfl⟩
      have hs1 : W1.heap.size = wb.heap.size + 1 := by rw [hW1]; simp
      have HB1 : Hid (Below wb.heap.size wb W1) := by rw [hW1]; exact (Below.refl _ _).alloc (Nat.le_refl _) _
      have HNB : Hid (NodeAt W1 wb.heap.size 0 n) := by rw [hW1]; exact ⟨by simp, by simp, by simp, by simp, by simp, by simp⟩
      obtain ⟨W2, hW2⟩ : ∃ W2 : World, W2 = W1.alloc (.cells #[] 55) := ⟨_, rfl⟩
      have hs2 : W2.heap.size = wb.heap.size + 2 := by rw [hW2]; simp [hs1]
      have HB2 : Hid (Below W1.heap.size W1 W2) := by rw [hW2]; exact (Below.refl _ _).alloc (Nat.le_refl _) _
      have HO2 : Hid (Ap2.Own W2 W1.heap.size (.slice (some ⟨wb.heap.size + 1, 0, none⟩) 0 0) []) := by rw [← hs1, hW2]; exact Ap2.Own.lit W1 _ (Nat.le_refl _)
      go_wp2_with fail
      rw [← hW1, ← hW2]
      refine (iParts n W2).mono ?_
      rintro e W3 ⟨⟨pa, pc, rfl, hpi⟩, hb3⟩
      have hs3 := hb3.size
      have HP3 : Hid (IntsIn W3 W2.heap.size W3.heap.size pa (parts n)) := hpi.within
      have HO3 : Hid (Ap2.Own W3 W1.heap.size (.slice (some ⟨wb.heap.size + 1, 0, none⟩) 0 0) []) := HO2.out.kept (S := fun _ => False) (Kept.ofBelow hb3) (fun _ _ h => h)
      have HB3 : Hid (Below W1.heap.size W1 W3) := HB2.out.trans (hb3.mono (by omega))
      have hpl := parts_le n
      clear hpi hb3 HB2 HO2 hW1 hW2 p0 p1 p2 p3 p4 p5
      go_wp2_with fail
      go_loopw [8, 25] (fun v q wq => ∃ m : Nat, m ≤ (parts n).length ∧ q = .int .i64 m ∧ Ap2.Own wq W1.heap.size v (((parts n).take m).map fun p => X p.toNat) ∧ Below W1.heap.size W1 wq ∧ IntsIn wq W2.heap.size W3.heap.size pa (parts n) ∧ W3.heap.size ≤ wq.heap.size ∧ ∀ x, v.ownBlock = some x → x < W2.heap.size ∨ W3.heap.size ≤ x) (fun _ q _ => (parts n).length - (intOf q).toNat)
      case atStart => exact ⟨0, Nat.zero_le _, rfl, HO3.out, HB3.out, HP3.out, Nat.le_refl _, fun x hx => by cases hx; exact .inl (by simp; omega)⟩
      case round =>
        clear HO3 HB3 HP3
        obtain ⟨m, hm, rfl, ho, hb, hi, hsz, hne⟩ := hrel
        have HBQ : Hid (Below W1.heap.size W1 wr) := hb
        have HIQ : Hid (IntsIn wr W2.heap.size W3.heap.size pa (parts n)) := hi
        have HRQ : Hid (RowN wr g l.length X) := (HRX.out.below HB1.out).below hb
        have HBW : Hid (Below w.heap.size w wr) := (HB.out.trans (HB1.out.mono hBs)).trans (hb.mono (by omega))
        have hB1 : W1.heap.size ≤ wr.heap.size := hb.size
        clear hb hi
        obtain ⟨ao, co, rfl, hwn⟩ := ho.form
        have HO : Hid (Ap2.Own wr W1.heap.size (.slice ao (((parts n).take m).map fun p => X p.toNat).length co) (((parts n).take m).map fun p => X p.toNat)) := ho
        have HNE : Hid (∀ x, (Value.slice ao (((parts n).take m).map fun p => X p.toNat).length co).ownBlock = some x → x < W2.heap.size ∨ W3.heap.size ≤ x) := hne
        have HLJ : Hid ((((parts n).take m).map fun p => X p.toNat).length = m) := by
          show _ = _
          rw [List.length_map, List.length_take]; omega
        clear ho hne
        by_cases hlt2 : m < (parts n).length
        · have hmz : (m : Int) < ((parts n).length : Int) := by omega
          clear hwn
          rcases HIQ.out.2 with h0 | ⟨pb, po, rfl, hpB, hpU, hpc⟩
          · omega
          have q0 := (hpc m hlt2).1
          have HPM := HDJ.out _ (List.getElem_mem hlt2)
          have HTK : Hid (((parts n).take (m + 1)).map (fun p => X p.toNat) = (((parts n).take m).map fun p => X p.toNat) ++ [X (parts n)[m].toNat]) := by
            show _ = _
            rw [List.take_succ_eq_append_getElem hlt2, List.map_append]; rfl
          obtain ⟨hy0, hy1⟩ := HPM
          generalize (parts n)[m] = yp at q0 hy0 hy1 HTK
          generalize (((parts n).take m).map fun p => X p.toNat) = L at HO HNE HLJ HTK ⊢
          clear hpc
          obtain ⟨jy, rfl⟩ := Int.eq_ofNat_of_zero_le hy0
          rw [Int.toNat_natCast] at HTK
          have c9 : NodeAt wr g (jy * 6) (X jy) := (HRQ.out jy (by omega)).1
          have hyl : (jy : Int) < (l.length : Int) := by omega
          have hLl : L.length ≤ 1048576 := by have := HLJ.out; omega
          generalize X jy = z at c9 HTK
          obtain ⟨c0, c1, c2, c3, c4, c5⟩ := c9
          go_wp2_with (at_builtin; go_must (refine app_node _ rfl _ _ rfl W1.heap.size (.slice ao L.length co) L z rfl _ rfl rfl HO.out hB1 hLl ?_; intro g5 cp5 w5 ho5 hk5 hg5))
          have HO5 : Hid (Ap2.Own w5 W1.heap.size (.slice (some ⟨g5, 0, none⟩) (L.length + 1) cp5) (L ++ [z])) := ho5
          have HK5 : Hid (Kept (fun k => (Value.slice ao L.length co).ownBlock = some k) wr w5) := hk5
          have HG5 : Hid ((Value.slice ao L.length co).ownBlock = some g5 ∨ wr.heap.size ≤ g5) := hg5
          clear ho5 hk5 hg5
          go_wp2
          go_roundw
          case rel =>
            refine ⟨m + 1, by omega, by go_num, by rw [HTK.out]; exact HO5.out, HBQ.out.trans (HK5.out.below (fun b hb => (HO.out.lt b hb).1) hB1), HIQ.out.kept HK5.out (fun b h1 h2 e => by have := HNE.out b e; omega), by have := HK5.out.size; omega, fun b hb => ?_⟩
            cases hb
            rcases HG5.out with e | e
            · exact HNE.out _ e
            · exact .inr (by show _ ≤ g5; omega)
          case measure => simp [intOf]; omega
        · have hmz : ¬ (m : Int) < ((parts n).length : Int) := by omega
          have hme : m = (parts n).length := by omega
          have HLS : Hid ((((parts n).take m).map fun p => X p.toNat) = sd) := by show _ = _; rw [HSX.out, List.take_of_length_le (by omega)]
          clear HO HNE HLJ hme
          rw [HLS.out] at hwn ⊢
          have HWN : Hid (WNodes wr W1.heap.size ao sd) := hwn
          obtain ⟨b0, b1, b2, b3, b4, b5⟩ := HNB.out.below HBQ.out (by omega)
          clear hwn
          go_wp2_with fail
          refine (HTJ.out wr ao co HBW.out HWN.out.nodes).mono ?_
          rintro e w6 ⟨rfl, hb6⟩
          have HB6 : Hid (Below w.heap.size w w6) := HBW.out.trans (hb6.mono (by omega))
          have HR6 : Hid (RowN w6 g l.length X) := HRQ.out.below hb6
          obtain ⟨⟨c0, c1, c2, c3, c4, c5⟩, hfz⟩ := HR6.out j hlt
          have f0 := hfz 0 (by omega)
          have f1 := hfz 1 (by omega)
          have f2 := hfz 2 (by omega)
          have f3 := hfz 3 (by omega)
          have f4 := hfz 4 (by omega)
          have f5 := hfz 5 (by omega)
          rw [Nat.add_zero] at f0
          clear hfz
          clear hb6 b0 b1 b2 b3 b4 b5
          go_wp2_with fail
          go_roundw
          case rel =>
            refine ⟨j + 1, by omega, by go_num, ?_, HB6.out.trans ((setNode_keptS (S := fun b => b = g) (b := g) (p := j * 6) (n := y) rfl (Kept.refl _ w6)).below (fun b (hb : b = g) => by have := HG.out; omega) HB6.out.size)⟩
            refine (HR6.out.set hlt _).congr (fun i hi => ?_)
            rw [HWX.out]
          case measure => simp [intOf]; omega
    · have e2 : j = l.length := by omega
      subst e2
      go_wp2
      go_ret
      refine ⟨⟨_, rfl, ⟨by rw [wk_length]; unfold maxLen; omega, .inr ⟨g, 0, rfl, by have := HG.out; omega, fun i hi => ?_, fun j hj => ?_⟩⟩⟩, HB.out⟩
      · have h9 := HR.out i (by rw [wk_length] at hi; exact hi)
        dsimp only at h9
        rw [List.getD_eq_getElem?_getD, List.getElem?_eq_getElem hi] at h9
        rw [Nat.zero_add]
        exact h9.1
      · rw [wk_length] at hj
        have h9 := (HR.out (j / 6) (by omega)).2 (j % 6) (Nat.mod_lt _ (by omega))
        rw [Nat.zero_add]
        have e : j / 6 * 6 + j % 6 = j := by omega
        rw [e] at h9
        exact h9

end Go.Proofs.Ytnkkigoeffghdaa.Aw2

/- Texts of terms as plain data: numbers in decimal digits, words, the text of a node. -/
namespace Go.Proofs.Ytnkkigoeffghdaa.Tx0
open Nd0 Pl1 Tm0 Tm1

/-- The digits of a number, none for 0. -/
def digs (n : Nat) : List UInt8 := if n = 0 then [] else digs (n / 10) ++ [UInt8.ofNat (48 + n % 10)]
termination_by n
decreasing_by omega
/-- A number in decimal digits. -/
def dec (n : Nat) : List UInt8 := if n = 0 then [48] else digs n
theorem digs_zero : digs 0 = [] := by unfold digs; rfl
theorem digs_pos {n : Nat} (h : 0 < n) : digs n = digs (n / 10) ++ [UInt8.ofNat (48 + n % 10)] := by
  rw [digs.eq_def, if_neg (by omega)]
theorem dig_nat (d : Nat) (h : d < 10) : (UInt8.ofNat (48 + d)).toNat = 48 + d := by
  rw [UInt8.toNat_ofNat']; exact Nat.mod_eq_of_lt (by omega)
/-- All digits. -/
def isDig (c : UInt8) : Bool := decide (48 ≤ c.toNat ∧ c.toNat ≤ 57)
theorem digs_all (n : Nat) : ∀ c ∈ digs n, isDig c = true := by
  induction n using Nat.strongRecOn with
  | ind n ih =>
    intro c hc
    by_cases h : n = 0
    · subst h; rw [digs_zero] at hc; cases hc
    · rw [digs_pos (by omega)] at hc
      rcases List.mem_append.1 hc with h1 | h1
      · exact ih (n / 10) (by omega) c h1
      · have e : c = UInt8.ofNat (48 + n % 10) := by simpa using h1
        subst e
        unfold isDig
        rw [dig_nat _ (by omega)]
        simp; omega
theorem digs_len (k : Nat) : ∀ n, n < 10 ^ k → (digs n).length ≤ k := by
  induction k with
  | zero => intro n h; have e : n = 0 := by omega
            subst e; rw [digs_zero]; exact Nat.le_refl _
  | succ k ih =>
    intro n h
    by_cases e : n = 0
    · subst e; rw [digs_zero]; exact Nat.zero_le _
    · rw [digs_pos (by omega), List.length_append]
      have := ih (n / 10) (by rw [Nat.pow_succ] at h; omega)
      simp; omega
theorem digs_one {n : Nat} (h : 0 < n) : 1 ≤ (digs n).length := by rw [digs_pos h]; simp
theorem dec_all (n : Nat) : ∀ c ∈ dec n, isDig c = true := by
  unfold dec
  split
  · intro c hc; have : c = 48 := by simpa using hc
    subst this; rfl
  · exact digs_all n
theorem dec_len {n : Nat} (h : n < 10 ^ 9) : 1 ≤ (dec n).length ∧ (dec n).length ≤ 9 := by
  unfold dec
  split
  · simp
  · exact ⟨digs_one (by omega), digs_len 9 n h⟩
/-- What digits are worth. -/
def valL (s : List UInt8) : Nat := s.foldl (fun n c => 10 * n + (c.toNat - 48)) 0
theorem valL_snoc (s : List UInt8) (c : UInt8) : valL (s ++ [c]) = 10 * valL s + (c.toNat - 48) := by
  unfold valL; rw [List.foldl_append]; rfl
theorem val_digs (n : Nat) : valL (digs n) = n := by
  induction n using Nat.strongRecOn with
  | ind n ih =>
    by_cases h : n = 0
    · subst h; rw [digs_zero]; rfl
    · rw [digs_pos (by omega), valL_snoc, ih (n / 10) (by omega), dig_nat _ (by omega)]
      omega
theorem val_dec (n : Nat) : valL (dec n) = n := by
  unfold dec
  split
  · rename_i h; subst h; rfl
  · exact val_digs n
theorem val_lt (s : List UInt8) (h : ∀ c ∈ s, isDig c = true) : valL s < 10 ^ s.length := by
  have key : ∀ (k : Nat) (s : List UInt8), s.length = k → (∀ c ∈ s, isDig c = true) → valL s < 10 ^ k := by
    intro k
    induction k with
    | zero => intro s hs _; have : s = [] := List.eq_nil_of_length_eq_zero hs
              subst this; decide
    | succ k ih =>
      intro s hs hd
      have hne : s ≠ [] := by intro e; rw [e] at hs; simp at hs
      have e := (List.dropLast_concat_getLast hne).symm
      have hl : s.dropLast.length = k := by rw [List.length_dropLast]; omega
      have h1 := ih s.dropLast hl (fun c hc => hd c (List.dropLast_subset s hc))
      have h2 := hd _ (List.getLast_mem hne)
      rw [e, valL_snoc]
      unfold isDig at h2
      simp at h2
      rw [Nat.pow_succ]
      omega
  exact key _ s rfl h
/-- A number of at most nine digits without needless noughts ahead. -/
def numL (s : List UInt8) : Option Nat :=
  if s.length = 0 ∨ 9 < s.length then none
  else if s.all isDig then (if dec (valL s) = s then some (valL s) else none) else none
theorem num_dec {n : Nat} (h : n < 10 ^ 9) : numL (dec n) = some n := by
  have hl := dec_len h
  unfold numL
  rw [if_neg (by omega), if_pos (List.all_eq_true.2 (dec_all n)), val_dec, if_pos rfl]
theorem num_some {s : List UInt8} {n : Nat} (h : numL s = some n) : dec n = s ∧ n < 10 ^ 9 ∧ s.length ≤ 9 := by
  unfold numL at h
  split at h
  · cases h
  · rename_i hl
    split at h
    · rename_i ha
      split at h
      · rename_i hd
        cases h
        have hv := val_lt s (List.all_eq_true.1 ha)
        exact ⟨hd, Nat.lt_of_lt_of_le hv (Nat.pow_le_pow_right (by omega) (by omega)), by omega⟩
      · cases h
    · cases h

/-- The two numbers of a word with a head and a colon between them. -/
def twoL (head : UInt8) : List UInt8 → Option (Nat × Nat)
  | [] => none
  | c :: w => if c = head then
      match w.dropWhile (fun x => x != 58) with
      | [] => none
      | _ :: y => match numL (w.takeWhile (fun x => x != 58)), numL y with
        | some a, some b => some (a, b)
        | _, _ => none
    else none

/-- The words of the operators of two parts. -/
def wordsL : List (List UInt8) := [[97, 110, 100], [111, 114], [120, 111, 114], [97, 100, 100], [115, 117, 98], [109, 117, 108], [100, 105, 118], [114, 101, 109], [115, 104, 108], [115, 104, 114], [61], [60], [115, 60], [106, 111, 105, 110]]
def wNot : List UInt8 := [110, 111, 116]
def wSlice : List UInt8 := [115, 108, 105, 99, 101]
def wIf : List UInt8 := [105, 102]
def wAll : List UInt8 := [97, 108, 108]
def wSome : List UInt8 := [115, 111, 109, 101]
/-- The head of a node in brackets: its word, and its numbers. -/
def headL (n : Nd) : List UInt8 :=
  if n.op = 2 then wNot
  else if n.op = 17 then wSlice ++ [32] ++ dec n.k.toNat ++ [32] ++ dec n.w.toNat
  else if n.op = 18 then wIf
  else if n.op = 19 then wAll ++ [32, 118] ++ dec n.k.toNat ++ [58] ++ dec n.b.toNat
  else if n.op = 20 then wSome ++ [32, 118] ++ dec n.k.toNat ++ [58] ++ dec n.b.toNat
  else wordsL.getD (n.op - 3).toNat []
def txt (ts : List (List UInt8)) (p : Int) : List UInt8 := ts.getD p.toNat []
/-- The parts' texts behind a head, a blank ahead of each; nothing once one is missing. -/
def withParts (ts : List (List UInt8)) : List UInt8 → List Int → Option (List UInt8)
  | h, [] => some h
  | h, p :: ps => if txt ts p = [] then none else withParts ts (h ++ [32] ++ txt ts p) ps
/-- The text of a node whose parts have texts; none once it would be too long. -/
def showN (n : Nd) (ts : List (List UInt8)) : List UInt8 :=
  if n.op = 0 then [35] ++ dec n.w.toNat ++ [58] ++ dec n.k.toNat
  else if n.op = 1 then [118] ++ dec n.k.toNat ++ [58] ++ dec n.w.toNat
  else match withParts ts (headL n) (parts n) with
    | none => []
    | some h => if 4000 < h.length + 2 then [] else [40] ++ h ++ [41]
def showTo (l : List Nd) : Nat → List (List UInt8)
  | 0 => []
  | k + 1 => showTo l k ++ [showN (nth l k) (showTo l k)]
theorem showTo_length (l : List Nd) (k : Nat) : (showTo l k).length = k := by
  induction k with
  | zero => rfl
  | succ k ih => show (showTo l k ++ [_]).length = _; rw [List.length_append, ih]; rfl
/-- The text of the root; none where there is none. -/
def showL (l : List Nd) : List UInt8 := if termOk l then txt (showTo l l.length) ((l.length : Int) - 1) else []

/-- The first place of a node in a list. -/
def placeOf (t : List Nd) (n : Nd) : Option Nat := (List.range t.length).find? fun i => decide ((nth t i).op = n.op ∧ (nth t i).w = n.w ∧ (nth t i).k = n.k ∧ (nth t i).a = n.a ∧ (nth t i).b = n.b ∧ (nth t i).c = n.c)
/-- A node put in, from byte p on: the list, and its place; or why it can't be. -/
def putL (t : List Nd) (n : Nd) (p : Nat) : Except (Int × Nat) (List Nd × Nat) :=
  match placeOf t n with
  | some i => .ok (t, i)
  | none => if nodeOk (t ++ [n]) t.length then (if 80 < t.length + 1 then .error (4, p) else .ok (t ++ [n], t.length)) else .error (3, p)
def inWord (c : UInt8) : Bool := c != 32 && c != 41
/-- The operator of a word and how many parts it takes. -/
def opOf (w : List UInt8) : Option (Int × Nat) :=
  match (List.range 14).find? (fun i => decide (wordsL.getD i [] = w)) with
  | some i => some (3 + (i : Int), 2)
  | none => if w = wNot then some (2, 1) else if w = wSlice then some (17, 1) else if w = wIf then some (18, 3) else if w = wAll then some (19, 1) else if w = wSome then some (20, 1) else none
/-- A reader of a text: the place, what is left, the nodes so far. -/
structure Rd where
  p : Nat
  r : List UInt8
  t : List Nd
def Rd.word (st : Rd) : List UInt8 := st.r.takeWhile inWord
def Rd.past (st : Rd) : Rd := ⟨st.p + (st.r.takeWhile inWord).length, st.r.dropWhile inWord, st.t⟩
def Rd.blank (st : Rd) : Option Rd := match st.r with
  | [] => none
  | c :: r => if c = 32 then some ⟨st.p + 1, r, st.t⟩ else none
/-- The numbers behind the word of an operator: those of a slice, of a quantifier, none. -/
def numsL (op : Int) (st : Rd) : Option (Rd × Nd) :=
  if op = 17 then
    match st.blank with
    | none => none
    | some s1 => match numL s1.word with
      | none => none
      | some k => match s1.past.blank with
        | none => none
        | some s2 => match numL s2.word with
          | none => none
          | some w => some (s2.past, ⟨op, w, k, 0, 0, 0⟩)
  else if op = 19 ∨ op = 20 then
    match st.blank with
    | none => none
    | some s1 => match twoL 118 s1.word with
      | none => none
      | some (k, b) => some (s1.past, ⟨op, 1, k, 0, b, 0⟩)
  else some (st, ⟨op, 0, 0, 0, 0, 0⟩)
/-- So many parts, a blank ahead of each. -/
def partsL (rd : Rd → Except (Int × Nat) (Rd × Nat)) (p0 : Nat) : Nat → Rd → Except (Int × Nat) (Rd × List Nat)
  | 0, st => .ok (st, [])
  | c + 1, st => match st.blank with
    | none => .error (2, p0)
    | some s1 => match rd s1 with
      | .error e => .error e
      | .ok (s2, i) => match partsL rd p0 c s2 with
        | .error e => .error e
        | .ok (s3, is) => .ok (s3, i :: is)
/-- The node that a word, its numbers and its parts make. -/
def madeL (n : Nd) (t : List Nd) (is : List Nat) : Nd :=
  let a : Int := is.getD 0 0
  let b : Int := if 1 < is.length then (is.getD 1 0 : Nat) else n.b
  let c : Int := if 2 < is.length then (is.getD 2 0 : Nat) else 0
  let w : Int := if n.op = 17 ∨ n.op = 19 ∨ n.op = 20 then n.w
    else if 13 ≤ n.op ∧ n.op ≤ 15 then 1
    else if n.op = 16 then width t a + width t b
    else if n.op = 18 then width t b
    else width t a
  ⟨n.op, w, n.k, a, b, c⟩
/-- A node in brackets, from byte p0 on; st stands behind the bracket. -/
def innerL (rd : Rd → Except (Int × Nat) (Rd × Nat)) (p0 : Nat) (st : Rd) : Except (Int × Nat) (Rd × Nat) :=
  match opOf st.word with
  | none => .error (2, p0)
  | some (op, count) => match numsL op st.past with
    | none => .error (2, p0)
    | some (s1, n) => match partsL rd p0 count s1 with
      | .error e => .error e
      | .ok (s2, is) => match s2.r with
        | [] => .error (2, p0)
        | c :: r => if c = 41 then
            match putL s2.t (madeL n s2.t is) p0 with
            | .error e => .error e
            | .ok (t, i) => .ok (⟨s2.p + 1, r, t⟩, i)
          else .error (2, p0)
def leafL (st : Rd) : Except (Int × Nat) (Rd × Nat) :=
  match twoL 35 st.word with
  | some (a, b) => match putL st.t ⟨0, a, b, 0, 0, 0⟩ st.p with
    | .error e => .error e
    | .ok (t, i) => .ok (⟨st.past.p, st.past.r, t⟩, i)
  | none => match twoL 118 st.word with
    | some (a, b) => match putL st.t ⟨1, b, a, 0, 0, 0⟩ st.p with
      | .error e => .error e
      | .ok (t, i) => .ok (⟨st.past.p, st.past.r, t⟩, i)
    | none => .error (2, st.p)
def opens (r : List UInt8) : Bool := match r with
  | [] => false
  | c :: _ => c == 40
/-- A node: the reader behind it, and its place. f: more than the brackets that are left. -/
def rdL : Nat → Rd → Except (Int × Nat) (Rd × Nat)
  | 0, _ => .error (2, 0)
  | f + 1, st => if opens st.r then innerL (rdL f) st.p ⟨st.p + 1, st.r.tail, st.t⟩ else leafL st
/-- What a text is read as: the nodes, the code, the byte. -/
def readL (s : List UInt8) : List Nd × Int × Int :=
  if 4000 < s.length then ([], 1, 0)
  else match rdL (s.length + 1) ⟨0, s, []⟩ with
    | .error (c, p) => ([], c, p)
    | .ok (st, i) => if st.r.length = 0 then (st.t.take (i + 1), 0, 0) else ([], 5, st.p)
def canonL (l : List Nd) : List Nd := if (showL l).length = 0 then [] else (readL (showL l)).1
def sameB (l m : List Nd) : Bool := decide (¬ (showL l).length = 0) && decide (¬ (showL m).length = 0) && decide (showL l = showL m)

end Go.Proofs.Ytnkkigoeffghdaa.Tx0
