/- Small texts of mine, one behind the other. -/
import Derived.Deep.CutBlock
import Derived.Test.YtmfpbhjmnadpkaaGreatDoorRows
import Derived.Deep.AppendLies
import Derived.OwnWalk
import Derived.Test.YtmfpbhjmnadpkaaGreatDoorPkU32
import Derived.Test.YtmfpbhjmnadpkaaGreatDoorPkU20
import Derived.Test.YtmfpbhjmnadpkaaGreatDoorPkU6
import Derived.Test.YtmfpbhjmnadpkaaGreatDoorPkU1
import Derived.Test.YtmfpbhjmnadpkaaGreatDoorPkU31
/- What the model reads, plain: sizes, and where nothing is read. -/
namespace Go.Proofs.YtmfpbhjmnadpkaaGreatDoor.Zw1
open Go.RowKit
open Tx0 Za1 Zk0 Zs0 Zl0 Zl2 Zl3
open Mm0 (Mc Mok)
set_option linter.unusedVariables false

theorem spl_le (d : UInt8) : ∀ (s : List UInt8) (x : List UInt8), x ∈ spl d s → x.length ≤ s.length := by
  intro s
  induction s with
  | nil => intro x hx; have : x = [] := by simpa [spl] using hx
           subst this; simp
  | cons c r ih =>
    intro x hx
    by_cases e : c = d
    · subst e
      rw [spl_cons_eq] at hx
      rcases List.mem_cons.1 hx with e | e
      · subst e; simp
      · have := ih x e; simp; omega
    · rw [spl_cons_ne e] at hx
      cases hy : spl d r with
      | nil => exact absurd hy (spl_ne d r)
      | cons y t =>
        rw [hy] at hx ih
        rcases List.mem_cons.1 hx with e | e
        · subst e
          have := ih y (by simp)
          simp; omega
        · have := ih x (by simp [e])
          simp; omega
theorem lns_le {s x : List UInt8} (h : x ∈ lns s) : x.length ≤ s.length := by
  unfold lns at h
  rw [split_eq] at h
  exact spl_le 10 s x (List.dropLast_subset _ h)
theorem wds_le {s x : List UInt8} (h : x ∈ wds s) : x.length ≤ s.length := by
  unfold wds at h
  rw [split_eq] at h
  exact spl_le 32 s x h
theorem wat_le (s : List UInt8) (i j : Nat) : (wat ((lns s).map wds) i j).length ≤ s.length := by
  unfold wat
  by_cases hi : i < (lns s).length
  · rw [List.getD_eq_getElem?_getD, List.getD_eq_getElem?_getD, List.getElem?_map, List.getElem?_eq_getElem hi]
    show (((wds (lns s)[i])[j]?).getD []).length ≤ _
    by_cases hj : j < (wds (lns s)[i]).length
    · rw [List.getElem?_eq_getElem hj]
      show ((wds (lns s)[i])[j]).length ≤ _
      have h1 := wds_le (List.getElem_mem hj)
      have h2 := lns_le (List.getElem_mem hi)
      omega
    · rw [List.getElem?_eq_none (by omega)]; simp
  · have e : ((lns s).map wds).getD i [] = [] := by rw [List.getD_eq_getElem?_getD, List.getElem?_eq_none (by simpa using hi)]; rfl
    rw [e]
    simp
theorem wrow {s : List UInt8} {i : Nat} (hi : i < (lns s).length) : ((lns s).map wds).getD i [] = wds (lns s)[i] := by
  rw [List.getD_eq_getElem?_getD, List.getElem?_map, List.getElem?_eq_getElem hi]; rfl
theorem wcell {s : List UInt8} {i j : Nat} (hi : i < (lns s).length) (hj : j < (wds (lns s)[i]).length) : (wds (lns s)[i])[j] = wat ((lns s).map wds) i j := by
  unfold wat
  rw [wrow hi, List.getD_eq_getElem?_getD, List.getElem?_eq_getElem hj]; rfl
theorem ldM_long {s : List UInt8} (h : 400000 < s.length) : ldM s = none := by
  cases hm : ldM s with
  | none => rfl
  | some m =>
    have := ldM_ok hm
    unfold okL at this
    obtain ⟨h1, h2⟩ := Bool.and_eq_true_iff.1 this
    have h3 := (sv_mok h1).2.2
    rw [of_decide_eq_true h2] at h3
    omega
theorem ldM_fit {s : List UInt8} (h : fitW ((lns s).map wds) = false) : ldM s = none := by
  unfold ldM mdS
  rw [h]
  rfl
theorem ldM_keys {s : List UInt8} (h : (rrB (wat ((lns s).map wds) 0 1) && rkB (wat ((lns s).map wds) 1 1)) = false) : ldM s = none := by
  unfold ldM mdS
  rw [h]
  cases fitW ((lns s).map wds) <;> rfl
theorem ldM_made {s : List UInt8} (h : fitW ((lns s).map wds) = true) (h2 : (rrB (wat ((lns s).map wds) 0 1) && rkB (wat ((lns s).map wds) 1 1)) = true) : ldM s = if okL s (madeW ((lns s).map wds)) = true then some (madeW ((lns s).map wds)) else none := by
  unfold ldM mdS
  rw [h, h2]
  rfl
/-- One line fits. -/
def fit1 (i n : Nat) : Prop := 2 ≤ n ∧ (i = 6 → n = 4) ∧ (6 < i → n = 3)
theorem fit_no {s : List UInt8} {i : Nat} (hi : i < (lns s).length) (h : ¬ fit1 i (wds (lns s)[i]).length) : fitW ((lns s).map wds) = false := by
  unfold fitW
  refine decide_eq_false fun hc => h ?_
  have := hc.2.2 i (by simpa using hi)
  rw [wrow hi] at this
  exact this
theorem fit_len {s : List UInt8} (h : (lns s).length < 7 ∨ 47 < (lns s).length) : fitW ((lns s).map wds) = false := by
  unfold fitW
  refine decide_eq_false fun hc => ?_
  have h1 := hc.1
  have h2 := hc.2.1
  rw [List.length_map] at h1 h2
  omega
theorem fit_yes {s : List UInt8} (h7 : 7 ≤ (lns s).length) (h47 : (lns s).length ≤ 47) (h : ∀ i, i < (lns s).length → fit1 i (((lns s).map wds).getD i []).length) : fitW ((lns s).map wds) = true := by
  unfold fitW
  exact decide_eq_true ⟨by simpa using h7, by simpa using h47, fun i hi => h i (by simpa using hi)⟩
end Go.Proofs.YtmfpbhjmnadpkaaGreatDoor.Zw1

/- The program's ReadKey. -/
namespace Go.Proofs.YtmfpbhjmnadpkaaGreatDoor.Zk1
open Go.RowKit
open Nd0 (lt_of_cell)
open Ta1 (tab tokB tok_tab tab_length)
open Tc2 (tv iTableOk)
open Tc5 (Lay)
open Td2 (finT)
open Ss0 (bs bs_size)
open Ss1 (tl tl_bs bs_tl tl_length)
open Tk0 (keyL iKey)
open Zk0 Zt0
set_option linter.unusedVariables false

/-- What reading a key comes to. -/
def RkP (S : ByteArray) (e : Ending) : Prop := e = .returned (.tuple #[tv (if rkB (tl S) = true then rkN (tl S) else 0) (bs (if rkB (tl S) = true then cutS 58 (tl S) else [])), .bool (rkB (tl S))])
theorem RkP.yes {S : ByteArray} {N : Int} {T : ByteArray} (h : rkB (tl S) = true) (hN : N = rkN (tl S)) (hT : T = bs (cutS 58 (tl S))) : RkP S (.returned (.tuple #[tv N T, .bool true])) := by
  unfold RkP
  rw [h, if_pos rfl, if_pos rfl, hN, hT]
theorem RkP.no {S : ByteArray} (h : rkB (tl S) = false) : RkP S (.returned (.tuple #[tv 0 ⟨#[]⟩, .bool false])) := by
  unfold RkP
  rw [h]
  rfl

set_option maxRecDepth 100000 in
set_option maxHeartbeats 4000000 in
theorem iReadKey (S : ByteArray) (w : World) (hT : TabZ w) (hs : S.size ≤ 1048576) :
    Calls Tryz.prog 16 #[.string S] w fun e w' => RkP S e ∧ Below w.heap.size w w' := by
  have HTZ : Hid (TabZ w) := hT
  obtain ⟨X0, hX0⟩ : ∃ X, X = w.alloc (.cells #[.int .i64 0, .string ⟨#[]⟩] 26) := ⟨_, rfl⟩
  have b0 : Below w.heap.size w X0 := by rw [hX0]; exact (Below.refl _ _).alloc (Nat.le_refl _) _
  have HB0 : Hid (Below w.heap.size w X0) := b0
  have HR0 : Hid (Lay X0 w.heap.size (.int .i64 0) (.string ⟨#[]⟩)) := by rw [hX0]; exact Lay.made _ _ _ _
  have hE : w.alloc (.cells #[.int .i64 0, .string ⟨#[]⟩] 26) = X0 := hX0.symm
  have HCU : Hid _ := iCut 58 S X0 (hT.below b0) hs
  have hl1 : (cutF 58 (tl S)).length ≤ 1048576 := by have := cutF_le 58 (tl S); rw [tl_length] at this; omega
  have hl2 : (cutS 58 (tl S)).length ≤ 1048576 := by have := cutS_le 58 (tl S); rw [tl_length] at this; omega
  have HRN : Hid (∀ W, TabZ W → Calls Tryz.prog 55 #[.string (bs (cutF 58 (tl S)))] W fun e w' => e = .returned (.tuple #[.int .i64 (rkN (tl S)), .bool (rnP (cutF 58 (tl S))).2]) ∧ Below W.heap.size W w') := fun W h => by
    have := iReadNumber (bs (cutF 58 (tl S))) W h (by rw [bs_size]; exact hl1)
    rw [tl_bs] at this
    exact this
  have HTO : Hid (∀ W, Calls Tryz.prog 49 #[tv (rkN (tl S)) (bs (cutS 58 (tl S)))] W fun e w' => e = .returned (.bool (tokB (rkN (tl S)) (cutS 58 (tl S)))) ∧ Below W.heap.size W w') := fun W => by
    have := iTableOk (rkN (tl S)) (bs (cutS 58 (tl S))) W (by rw [bs_size]; exact hl2)
    rw [tl_bs] at this
    exact this
  obtain ⟨rb, hrb⟩ : ∃ b, b = (rnP (cutF 58 (tl S))).2 := ⟨_, rfl⟩
  obtain ⟨tb, htb⟩ : ∃ b, b = tokB (rkN (tl S)) (cutS 58 (tl S)) := ⟨_, rfl⟩
  have HK : Hid (rkB (tl S) = (rb && (tb && decide (keyL (rkN (tl S)).toNat (cutS 58 (tl S)) = tl S)))) := by show _ = _; rw [hrb, htb]; rfl
  have HKY : Hid (tb = true → ∀ W, TabZ W → Calls Tryz.prog 56 #[tv (rkN (tl S)) (bs (cutS 58 (tl S)))] W fun e w' => e = .returned (.string (bs (keyL (rkN (tl S)).toNat (cutS 58 (tl S))))) ∧ Below W.heap.size W w') := fun ht W h => by
    rw [htb] at ht
    obtain ⟨n, F, hn, hN, hl⟩ := tok_tab ht
    rw [hN, hl, Int.toNat_natCast]
    exact iKey n F W hn h.pow
  rw [← hrb] at HRN
  rw [← htb] at HTO
  clear hX0 b0 hT hs hl1 hl2 hrb htb
  obtain ⟨N, hN⟩ : ∃ N, N = rkN (tl S) := ⟨_, rfl⟩
  have HN : Hid (N = rkN (tl S)) := hN
  obtain ⟨X, hX⟩ : ∃ X, X = bs (cutF 58 (tl S)) := ⟨_, rfl⟩
  obtain ⟨Y, hY⟩ : ∃ Y, Y = bs (cutS 58 (tl S)) := ⟨_, rfl⟩
  have HY : Hid (Y = bs (cutS 58 (tl S))) := hY
  obtain ⟨KS, hKS⟩ : ∃ K, K = bs (keyL (rkN (tl S)).toNat (cutS 58 (tl S))) := ⟨_, rfl⟩
  have HKS : Hid (KS = bs (keyL (rkN (tl S)).toNat (cutS 58 (tl S)))) := hKS
  rw [← hX, ← hY] at HCU
  rw [← hX, ← hN] at HRN
  rw [← hY, ← hN] at HTO
  rw [← hKS, ← hY, ← hN] at HKY
  clear hN hX hY hKS
  go_enter Tryz.func16, Tryz.ntmps16
  go_upto_region 1 with fail
  clear hE
  go_wp2_with fail
  refine Calls.mono HCU.out ?_
  rintro e w1 ⟨⟨cb, rfl⟩, hb⟩
  have HB1 : Hid (Below w.heap.size w w1) := HB0.out.trans (hb.mono HB0.out.size)
  have HR1 : Hid (Lay w1 w.heap.size (.int .i64 0) (.string ⟨#[]⟩)) := HR0.out.below hb
  clear hb HB0 HR0 HCU
  go_wp2_with fail
  refine (HRN.out _ (HTZ.out.below HB1.out)).mono ?_
  rintro e w2 ⟨rfl, hb⟩
  have HB2 : Hid (Below w.heap.size w w2) := HB1.out.trans (hb.mono HB1.out.size)
  have HR2 : Hid (Lay w2 w.heap.size (.int .i64 0) (.string ⟨#[]⟩)) := HR1.out.below hb
  clear hb HB1 HR1 HRN
  go_upto_region 4 with fail
  obtain ⟨W3, hW3⟩ : ∃ X, X = w2.alloc (.cells #[.int .i64 N, .string Y] 26) := ⟨_, rfl⟩
  obtain ⟨q, hq⟩ : ∃ q, q = w2.heap.size := ⟨_, rfl⟩
  have hb : Below w2.heap.size w2 W3 := by rw [hW3]; exact (Below.refl _ _).alloc (Nat.le_refl _) _
  have HT3 : Hid (Lay W3 q (.int .i64 N) (.string Y)) := by rw [hW3, hq]; exact Lay.made _ _ _ _
  have HB3 : Hid (Below w.heap.size w W3) := HB2.out.trans (hb.mono HB2.out.size)
  have HR3 : Hid (Lay W3 w.heap.size (.int .i64 0) (.string ⟨#[]⟩)) := HR2.out.below hb
  rw [← hW3, ← hq]
  clear hb hW3 hq HB2 HR2
  cases rb
  · have HF : Hid (rkB (tl S) = false) := by show _ = _; rw [HK.out]; rfl
    have HFN : Hid _ := finT HR3.out HB3.out (Nat.le_refl _) (.int .i64 0) (.string ⟨#[]⟩)
    obtain ⟨r0, r1, r2, r3⟩ := HR3.out
    go_wp2
    obtain ⟨W, hW, hz, hbz⟩ := HFN.out
    rw [← hW]
    obtain ⟨z0, z1, _, _⟩ := hz
    exact bodyPost_ret (v := .tuple #[tv 0 ⟨#[]⟩, .bool false]) (by simp [results, Tryz.results16, go_sem, z0, z1]) rfl ⟨RkP.no HF.out, hbz⟩
  cases tb
  · have HF : Hid (rkB (tl S) = false) := by show _ = _; rw [HK.out]; rfl
    obtain ⟨t0, t1, _, _⟩ := HT3.out
    go_wp2_with fail
    clear t0 t1
    refine (HTO.out _).mono ?_
    rintro e w4 ⟨rfl, hb⟩
    have HB4 : Hid (Below w.heap.size w w4) := HB3.out.trans (hb.mono HB3.out.size)
    have HR4 : Hid (Lay w4 w.heap.size (.int .i64 0) (.string ⟨#[]⟩)) := HR3.out.below hb
    clear hb
    have HFN : Hid _ := finT HR4.out HB4.out (Nat.le_refl _) (.int .i64 0) (.string ⟨#[]⟩)
    obtain ⟨r0, r1, r2, r3⟩ := HR4.out
    go_wp2
    obtain ⟨W, hW, hz, hbz⟩ := HFN.out
    rw [← hW]
    obtain ⟨z0, z1, _, _⟩ := hz
    exact bodyPost_ret (v := .tuple #[tv 0 ⟨#[]⟩, .bool false]) (by simp [results, Tryz.results16, go_sem, z0, z1]) rfl ⟨RkP.no HF.out, hbz⟩
  have HKY2 : Hid _ := HKY.out rfl
  clear HKY
  obtain ⟨t0, t1, _, _⟩ := HT3.out
  go_wp2_with fail
  clear t0 t1
  refine (HTO.out _).mono ?_
  rintro e w4 ⟨rfl, hb⟩
  have HB4 : Hid (Below w.heap.size w w4) := HB3.out.trans (hb.mono HB3.out.size)
  have HR4 : Hid (Lay w4 w.heap.size (.int .i64 0) (.string ⟨#[]⟩)) := HR3.out.below hb
  have HT4 : Hid (Lay w4 q (.int .i64 N) (.string Y)) := HT3.out.below hb
  clear hb HB3 HR3 HT3
  obtain ⟨t0, t1, _, _⟩ := HT4.out
  go_wp2_with fail
  clear t0 t1
  refine (HKY2.out _ (HTZ.out.below HB4.out)).mono ?_
  rintro e w5 ⟨rfl, hb⟩
  have HB5 : Hid (Below w.heap.size w w5) := HB4.out.trans (hb.mono HB4.out.size)
  have HR5 : Hid (Lay w5 w.heap.size (.int .i64 0) (.string ⟨#[]⟩)) := HR4.out.below hb
  have HT5 : Hid (Lay w5 q (.int .i64 N) (.string Y)) := HT4.out.below hb
  clear hb HB4 HR4 HT4
  by_cases hk : keyL (rkN (tl S)).toNat (cutS 58 (tl S)) = tl S
  · have HF : Hid (rkB (tl S) = true) := by show _ = _; rw [HK.out, decide_eq_true hk]; rfl
    have hne : (KS.toList == S.toList) = true := Ss1.eqb_true (by rw [HKS.out, tl_bs, hk])
    have HFN : Hid _ := finT HR5.out HB5.out (Nat.le_refl _) (.int .i64 N) (.string Y)
    clear hk
    obtain ⟨t0, t1, _, _⟩ := HT5.out
    obtain ⟨r0, r1, r2, r3⟩ := HR5.out
    have hq1 := HT5.out.lt
    go_wp2
    obtain ⟨W, hW, hz, hbz⟩ := HFN.out
    rw [← hW]
    obtain ⟨z0, z1, _, _⟩ := hz
    exact bodyPost_ret (v := .tuple #[tv N Y, .bool true]) (by simp [results, Tryz.results16, go_sem, z0, z1]) rfl ⟨RkP.yes HF.out HN.out HY.out, hbz⟩
  · have HF : Hid (rkB (tl S) = false) := by show _ = _; rw [HK.out, decide_eq_false hk]; rfl
    have hne : (KS.toList == S.toList) = false := Ss1.eqb_false (by rw [HKS.out, tl_bs]; exact hk)
    have HFN : Hid _ := finT HR5.out HB5.out (Nat.le_refl _) (.int .i64 0) (.string ⟨#[]⟩)
    clear hk
    obtain ⟨r0, r1, r2, r3⟩ := HR5.out
    go_wp2
    obtain ⟨W, hW, hz, hbz⟩ := HFN.out
    rw [← hW]
    obtain ⟨z0, z1, _, _⟩ := hz
    exact bodyPost_ret (v := .tuple #[tv 0 ⟨#[]⟩, .bool false]) (by simp [results, Tryz.results16, go_sem, z0, z1]) rfl ⟨RkP.no HF.out, hbz⟩
end Go.Proofs.YtmfpbhjmnadpkaaGreatDoor.Zk1

/- Lists of whole numbers and of flags that are appended to: the law at the walk, and how they are read. -/
namespace Go.Proofs.YtmfpbhjmnadpkaaGreatDoor.Ap0
open Go.RowKit
open Nd0
set_option linter.unusedVariables false

theorem infoInt : (Tryz.prog.info? 3).map (fun i => (i.zero, i.size, i.bytes)) = some (some (.int .i64 0), 1, 8) := by kernel_rfl

/-- The slice v, in a block from B on, is the numbers l and may be appended to. -/
def Ows (w : World) (B : Nat) (v : Value) (l : List Int) : Prop := w.ownsRow B 3 1 v l.length (l.map fun x => .int .i64 x)

theorem Ows.form {w : World} {B : Nat} {v : Value} {l : List Int} (h : Ows w B v l) : ∃ a c, v = .slice a l.length c ∧ WInts w B a l := by
  obtain ⟨h1, h2⟩ := h
  rcases h2 with ⟨rfl, h0⟩ | ⟨g, cap, cur, rfl, hb, hg, hn, hm, hs, ht⟩
  · have : l = [] := List.eq_nil_of_length_eq_zero h0
    subst this
    exact ⟨none, 0, rfl, Nat.zero_le _, .inl rfl⟩
  · refine ⟨_, _, rfl, by omega, .inr ⟨g, 0, rfl, hb, fun i hi => ⟨?_, ?_⟩⟩⟩
    · rw [Nat.zero_add, cell_of_row w g i cur _ _ hg]
      have e : (cur.toList.take (l.length * 1))[i]? = some (.int .i64 l[i]) := by rw [ht]; simp [hi]
      rw [List.getElem?_take_of_lt (by omega)] at e
      simpa using e
    · rw [Nat.zero_add]
      simp [World.frozen?, hg]
theorem Ows.lit (w : World) (B : Nat) (hB : B ≤ w.heap.size) : Ows (w.alloc (.cells #[] 3)) B (.slice (some ⟨w.heap.size, 0, none⟩) 0 0) [] :=
  World.ownsRow_lit w #[] 0 hB (Nat.zero_le _) rfl
theorem Ows.lt {w : World} {B : Nat} {v : Value} {l : List Int} (h : Ows w B v l) : ∀ k, v.ownBlock = some k → B ≤ k ∧ k < w.heap.size := World.ownsRow.lt h
theorem Ows.kept {w w' : World} {B : Nat} {v : Value} {l : List Int} (h : Ows w B v l) {S : Nat → Prop} (k : Kept S w w') (hs : ∀ i, v.ownBlock = some i → ¬ S i) : Ows w' B v l := by
  refine ⟨h.1, ?_⟩
  rcases h.2 with hn | ⟨g, cap, cur, rfl, hb, hgg, rest⟩
  · exact .inl hn
  · refine .inr ⟨g, cap, cur, rfl, hb, ?_, rest⟩
    rw [k.block g (Array.getElem?_eq_some_iff.1 hgg).1 (hs g rfl)]
    exact hgg

/-- One number more. -/
theorem app_int {ops : Array Oper} {rest : List Oper} {o : Oper} {a : Act} {Q : Exit → Act → World → Prop} (W : World) (hgd : o.guard = none) (s x : Operand)
    (ho : o.op = .call { callee := .builtin .append, args := #[s, x], argTypes := #[27, 27] })
    (B : Nat) (v : Value) (l : List Int) (y : Int) (hs : a.eval s = v) (hx : a.eval x = .slice (some ⟨W.heap.size, 0, none⟩) 1 1)
    (hown : Ows W B v l) (hB : B ≤ W.heap.size) (hlen : l.length ≤ 1048576)
    (h : ∀ g cap w', Ows w' B (.slice (some ⟨g, 0, none⟩) (l.length + 1) cap) (l ++ [y]) → Kept (fun k => v.ownBlock = some k) W w' → (v.ownBlock = some g ∨ W.heap.size ≤ g) → wpList Tryz.prog ops Q rest (a.put o.dst (.slice (some ⟨g, 0, none⟩) (l.length + 1) cap)) w') :
    wpList Tryz.prog ops Q (o :: rest) a (W.alloc (.cells #[.int .i64 y] 3)) := by
  obtain ⟨i, hi, hzz⟩ := Option.map_eq_some_iff.1 infoInt
  simp only [Prod.mk.injEq] at hzz
  obtain ⟨hz, hsz, hb⟩ := hzz
  refine wpList_append_lies (W.alloc (.cells #[.int .i64 y] 3)) hgd s x 27 ho B 3 i (.int .i64 0) 1 8 Tryz.underlying27 hi hz hsz hb rfl (by omega) v l.length (l.map fun x => .int .i64 x) hs (World.ownsRow.alloc hown _)
    ⟨W.heap.size, 0, none⟩ 1 1 [.int .i64 y] hx rfl ?_ ?_ (by omega) (by unfold maxLen; omega) (by omega) (by simp; omega) _ rfl ?_
  · intro j u hu
    exact World.news_of_block (heap_alloc_new W _) j u hu
  · intro u hu
    simp at hu
    subst hu
    rfl
  · intro g cap w' h1 h2 h3 h4
    refine h g cap w' ?_ ?_ ?_
    · unfold Ows
      simpa using h1
    · have k1 : Kept (fun k => v.ownBlock = some k) W (W.alloc (.cells #[.int .i64 y] 3)) := (Kept.refl _ W).alloc _
      exact k1.trans ⟨h2.os, h2.tape, h2.output, h2.size, fun k hk hn => h2.block k hk (fun e => hn e.symm)⟩
    · rcases h3 with h3 | h3
      · exact .inl h3
      · exact .inr (by rw [h3]; simp)

end Go.Proofs.YtmfpbhjmnadpkaaGreatDoor.Ap0

/- The program's readVals. -/
namespace Go.Proofs.YtmfpbhjmnadpkaaGreatDoor.Wp4
open Go.RowKit
open Ta2 (bitB)
open Vo0 (allB valB iVals)
open Nd0 (Kept Ints WInts lt_of_cell)
open Ap0
open Ss0 (bs bs_size)
open Ss1 (tl tl_length)
open Wp0 Wp1 Wp3
set_option linter.unusedVariables false

set_option maxRecDepth 100000 in
set_option maxHeartbeats 2000000 in
theorem iReadVals (S : ByteArray) (w : World) (hS : S.size ≤ 1048576) :
    Calls Tryz.prog 177 #[.string S] w fun e w' => ∃ v, e = .returned (.tuple #[v, .bool (rvB (tl S))]) ∧ Ows w' w.heap.size v (rvL (tl S)) ∧ Below w.heap.size w w' := by
  have hlen := tl_length S
  by_cases h45 : tl S = [45]
  · have hq : (S.toList == [45]) = true := Ss1.eql_true h45
    have HRL : Hid (rvL (tl S) = []) := by show _ = _; unfold rvL; exact if_pos h45
    have HRB : Hid (rvB (tl S) = true) := by show _ = _; unfold rvB; exact if_pos h45
    clear h45 hlen
    go_enter Tryz.func177, Tryz.ntmps177
    go_wp2
    go_ret2
    exact ⟨_, by rw [HRB.out]; rfl, by rw [HRL.out]; exact Ows.lit _ _ (Nat.le_refl _), (Below.refl _ _).alloc (Nat.le_refl _) _⟩
  have hq : (S.toList == [45]) = false := Ss1.eql_false h45
  have HRL : Hid (rvL (tl S) = (tl S).map un) := by show _ = _; unfold rvL; exact if_neg h45
  have HRB : Hid (rvB (tl S) = (decide (tl S ≠ []) && valB ((tl S).map un) 12)) := by show _ = _; unfold rvB; exact if_neg h45
  clear h45
  obtain ⟨TK, hTK⟩ : ∃ TK : Nat → List Int, TK = fun k => ((tl S).take k).map un := ⟨_, rfl⟩
  have HTK : Hid (TK = fun k => ((tl S).take k).map un) := hTK
  have HTL : Hid (∀ k, k ≤ S.size → (TK k).length = k) := by intro k hk; rw [hTK]; simp; omega
  have HT0 : Hid (TK 0 = []) := by show _ = _; rw [hTK]; rfl
  have HLEN : Hid ((tl S).length = S.size) := hlen
  clear hTK hlen
  go_enter Tryz.func177, Tryz.ntmps177
  go_wp2
  go_loopw [4, 12] (fun v i wr => ∃ k : Nat, k ≤ S.size ∧ i = .int .i64 k ∧ Ows wr w.heap.size v (TK k) ∧ Below w.heap.size w wr) (fun _ i _ => S.size - (intOf i).toNat)
  case atStart => exact ⟨0, Nat.zero_le _, rfl, by rw [HT0.out]; exact Ows.lit _ _ (Nat.le_refl _), (Below.refl _ _).alloc (Nat.le_refl _) _⟩
  case round =>
    obtain ⟨k, hk, rfl, ho, hbr⟩ := hrel
    have HO : Hid (Ows wr w.heap.size u4 (TK k)) := ho
    have HB : Hid (Below w.heap.size w wr) := hbr
    clear ho hbr
    by_cases hlt : k < S.size
    · have hlz : (k : Int) < (S.size : Int) := by omega
      have hb1 : (S[k].toNat : Int) < 256 := by have := S[k].toNat_lt; omega
      have hw1 : wrap64 (S[k].toNat : Int) = (S[k].toNat : Int) := by unfold wrap64; omega
      have hw2 : wrap64 ((S[k].toNat : Int) - 48) = (S[k].toNat : Int) - 48 := by unfold wrap64; omega
      have HNX : Hid (TK (k + 1) = TK k ++ [(S[k].toNat : Int) - 48]) := by
        show _ = _
        rw [HTK.out]
        show ((tl S).take (k + 1)).map un = ((tl S).take k).map un ++ [_]
        rw [List.take_succ_eq_append_getElem (by rw [tl_length]; exact hlt), List.map_append]
        rfl
      go_wp2_with (at_builtin; go_must (refine app_int _ rfl _ _ rfl w.heap.size u4 (TK k) ((S[k].toNat : Int) - 48) rfl rfl HO.out HB.out.size (by rw [HTL.out k hk]; omega) ?_; intro g5 cp5 w5 ho5 hk5 hg5; have HO5 : Hid (Ows w5 w.heap.size (.slice (some ⟨g5, 0, none⟩) ((TK k).length + 1) cp5) (TK k ++ [(S[k].toNat : Int) - 48])) := ho5; have HK5 : Hid (Kept (fun i => u4.ownBlock = some i) wr w5) := hk5; clear ho5 hk5 hg5))
      go_roundw
      case rel => exact ⟨k + 1, by omega, by go_num, by rw [HNX.out]; exact HO5.out, HB.out.trans (HK5.out.below (fun i hi => (HO.out.lt i hi).1) HB.out.size)⟩
      case measure => simp [intOf]; omega
    · have hlz : ¬ (k : Int) < (S.size : Int) := by omega
      have HTE : Hid (TK k = rvL (tl S)) := by
        show _ = _
        rw [HRL.out, HTK.out]
        show ((tl S).take k).map un = _
        rw [List.take_of_length_le (by have := HLEN.out; omega)]
      have ho := HO.out
      rw [HTE.out] at ho
      have HO2 : Hid (Ows wr w.heap.size u4 (rvL (tl S))) := ho
      obtain ⟨a2, c2, e2, f2⟩ := ho.form
      subst e2
      have HI : Hid (Ints wr a2 (rvL (tl S))) := f2.ints
      clear f2 ho HO
      by_cases h0 : tl S = []
      · have hz : (S.toList == []) = true := Ss1.eql_true h0
        have HF : Hid (rvB (tl S) = false) := by show _ = _; rw [HRB.out, h0]; rfl
        clear h0
        go_wp2
        go_ret2
        exact ⟨_, by rw [HF.out]; rfl, HO2.out, HB.out⟩
      · have hz : (S.toList == []) = false := Ss1.eql_false h0
        have HF : Hid (valB (rvL (tl S)) 12 = rvB (tl S)) := by
          show _ = _
          rw [HRB.out, HRL.out, decide_eq_true h0]
          rfl
        have HVO : Hid (∀ W, Ints W a2 (rvL (tl S)) → Calls Tryz.prog 51 #[.slice a2 (rvL (tl S)).length c2, .int .i64 12] W fun e w' => e = .returned (.bool (rvB (tl S))) ∧ w' = W) := fun W hi => by
          have := iVals a2 _ c2 12 W hi
          rwa [HF.out] at this
        clear h0
        obtain ⟨rb, hrb⟩ : ∃ rb, rb = rvB (tl S) := ⟨_, rfl⟩
        rw [← hrb] at HVO
        have HQ : Hid (rb = rvB (tl S)) := hrb
        obtain ⟨rl, hrl⟩ : ∃ rl, rl = rvL (tl S) := ⟨_, rfl⟩
        rw [← hrl] at HVO HI HO2
        have HQL : Hid (rl = rvL (tl S)) := hrl
        rw [← hrl]
        clear hrb hrl HF
        go_wp2_with (go_at_call 51; refine (HVO.out _ HI.out).mono ?_; rintro e w' ⟨rfl, hw'⟩; have hw'' := hw'.symm; clear hw'; subst hw'')
        go_ret2
        have ho := HO2.out
        rw [HQL.out] at ho
        exact ⟨_, by rw [← HQ.out]; rfl, by rw [← HQL.out] at ho ⊢; exact ho, HB.out⟩
end Go.Proofs.YtmfpbhjmnadpkaaGreatDoor.Wp4
