/- Small texts of mine, one behind the other. -/
import Derived.Test.YtmjmnfegaoegjaaGreatDoorPkLD36
/- A machine read from its text: plain, as the model reads. -/
namespace Go.Proofs.YtmjmnfegaoegjaaGreatDoor.Zl2
open Go.RowKit
open Tx0 Ta1 Za0 Za1 Zk0 Zs0 Zl0
open Mm0 (Mc Mok)
open Qc0 (Sn)
open Ta2 (bitB)
open Wp1 (vt dgt)
open Wp3 (rvB rvL un un_dgt)
open Ss0 (bs bs_size)
open Ss1 (tl tl_bs bs_tl tl_length numI)
open Tk0 (keyL itoa_dec)
set_option linter.unusedVariables false

def lns (s : List UInt8) : List (List UInt8) := (Lib.split s [10]).dropLast
def int2 (s : List UInt8) : Int := if s = [45, 49] then -1 else if s = [49, 48, 48, 48, 48, 48, 48, 48, 48, 48] then 1000000000 else if numI s < 0 then -2 else numI s
def wat (W : List (List (List UInt8))) (i j : Nat) : List UInt8 := (W.getD i []).getD j []
def fitW (W : List (List (List UInt8))) : Bool := decide (7 ≤ W.length ∧ W.length ≤ 47 ∧ ∀ i, i < W.length → 2 ≤ (W.getD i []).length ∧ (i = 6 → (W.getD i []).length = 4) ∧ (6 < i → (W.getD i []).length = 3))
def madeW (W : List (List (List UInt8))) : Mc :=
  ⟨rrL (wat W 0 1), rkN (wat W 1 1), bs (cutS 58 (wat W 1 1)), int2 (wat W 2 1), rvL (wat W 3 1), int2 (wat W 4 1), decide (wat W 5 1 = [49]), int2 (wat W 6 1), int2 (wat W 6 2), int2 (wat W 6 3), (List.range' 7 (W.length - 7)).map fun i => ⟨bs (wat W i 1), int2 (wat W i 2)⟩⟩
def mdS (s : List UInt8) : Option Mc := if fitW ((lns s).map wds) = true then if (rrB (wat ((lns s).map wds) 0 1) && rkB (wat ((lns s).map wds) 1 1)) = true then some (madeW ((lns s).map wds)) else none else none

theorem split_one {d : UInt8} {s : List UInt8} (h : ∀ c ∈ s, c ≠ d) : Lib.split s [d] = [s] := by
  unfold Lib.split
  rw [Lib.count_miss (idx_miss d s h)]
  rfl
theorem split_more {d : UInt8} {a r : List UInt8} (h : ∀ c ∈ a, c ≠ d) : Lib.split (a ++ d :: r) [d] = a :: Lib.split r [d] := by
  have hi := idx_hit d a r h
  have hd : (a ++ d :: r).drop (a.length + 1) = r := by
    rw [List.drop_append]
    simp
  unfold Lib.split
  have hc : Lib.count (a ++ d :: r) [d] = 1 + Lib.count r [d] := by
    have := Lib.count_hit (s := a ++ d :: r) (sub := [d]) (by simp) hi
    simpa [hd] using this
  rw [hc, Nat.add_comm]
  show (if Lib.index (a ++ d :: r) [d] == -1 then _ else _) = _
  rw [hi, if_neg (by simp <;> omega)]
  simp [hd]
theorem lin0_no {m : Mc} (h : Mok m) (hk : ∀ x ∈ m.memo, plB (tl x.k) = true) (i : Nat) : ∀ c ∈ lin0 m i, c ≠ 10 := by
  intro c hc
  unfold lin0 at hc
  rcases List.mem_append.1 hc with e | e
  · exact (wd_no32 i c e).2
  · rcases List.mem_cons.1 e with rfl | e
    · decide
    · exact bod_no h hk i c e
theorem lns_sav {M : Mc} (h : Mok M) (hk : ∀ x ∈ M.memo, plB (tl x.k) = true) : lns (savT M) = (List.range (7 + M.memo.length)).map (lin0 M) := by
  have key : ∀ (j i : Nat), Lib.split (((List.range' i j).map (lin M)).flatten) [10] = (List.range' i j).map (lin0 M) ++ [[]] := by
    intro j
    induction j with
    | zero => intro i; exact split_one (fun c hc => by cases hc)
    | succ j ih =>
      intro i
      rw [List.range'_succ, List.map_cons, List.flatten_cons, List.map_cons]
      have e : lin M i ++ ((List.range' (i + 1) j).map (lin M)).flatten = lin0 M i ++ (10 :: ((List.range' (i + 1) j).map (lin M)).flatten) := by rw [lin_lin0]; simp
      rw [e, split_more (lin0_no h hk i), ih (i + 1)]
      rfl
  unfold lns savT linTo
  rw [List.range_eq_range', key]
  simp
theorem int2_itoa {n : Int} (h0 : -1 ≤ n) (h1 : n ≤ 1000000000) : int2 (Lib.itoa n) = n := by
  by_cases e : n = -1
  · subst e; rw [itoa_neg]; rfl
  obtain ⟨k, rfl⟩ := Int.eq_ofNat_of_zero_le (by omega : 0 ≤ n)
  rw [itoa_dec]
  have hne : dec k ≠ [45, 49] := by
    intro e
    have := dec_all k 45 (by rw [e]; simp)
    exact absurd this (by decide)
  by_cases e2 : k = 1000000000
  · subst e2
    have : dec 1000000000 = [49, 48, 48, 48, 48, 48, 48, 48, 48, 48] := by decide +kernel
    rw [this]
    rfl
  have hne2 : dec k ≠ [49, 48, 48, 48, 48, 48, 48, 48, 48, 48] := by
    intro e
    have h3 := (dec_len' (n := k) (k := 9) (by omega) (by omega)).2
    rw [e] at h3
    simp at h3
  unfold int2
  rw [if_neg hne, if_neg hne2, numI_dec (by omega), if_neg (by omega)]
def wrd (M : Mc) : Nat → List (List UInt8)
  | 6 => [wd 6, Lib.itoa M.steps, Lib.itoa M.looks, Lib.itoa M.hits]
  | 0 => [wd 0, rowT M.row]
  | 1 => [wd 1, keyL M.N.toNat (tl M.S)]
  | 2 => [wd 2, Lib.itoa M.room]
  | 3 => [wd 3, vt M.vals]
  | 4 => [wd 4, Lib.itoa M.ret]
  | 5 => [wd 5, Lib.itoa (bI M.over)]
  | k + 7 => match M.memo[k]? with
    | some x => [wd (k + 7), tl x.k, Lib.itoa x.r]
    | none => [wd (k + 7), []]
theorem wds_line {M : Mc} (h : Mok M) (hk : ∀ x ∈ M.memo, plB (tl x.k) = true) (i : Nat) : wds (lin0 M i) = wrd M i := by
  have hw := fun c hc => (wd_no32 i c hc).1
  unfold lin0
  rw [wds_more hw]
  match i with
  | 0 => rw [show bod M 0 = rowT M.row from rfl, wds_one (fun c hc => (row_no _ c hc).1)]; rfl
  | 1 =>
    obtain ⟨n, F, hn, hN, hS⟩ := tok_tab h.tab
    rw [show bod M 1 = keyL M.N.toNat (tl M.S) from rfl, wds_one (fun c hc => by
      rw [hN, hS, Int.toNat_natCast] at hc
      exact (key_no n F c hc).1)]
    rfl
  | 2 => rw [show bod M 2 = Lib.itoa M.room from rfl, wds_one (fun c hc => (itoa_no (by have := h.room; omega) c hc).1)]; rfl
  | 3 => rw [show bod M 3 = vt M.vals from rfl, wds_one (fun c hc => (vt_no (fun b hb => bit_in (h.bits b hb)) c hc).1)]; rfl
  | 4 => rw [show bod M 4 = Lib.itoa M.ret from rfl, wds_one (fun c hc => (itoa_no h.ret.1 c hc).1)]; rfl
  | 5 => rw [show bod M 5 = Lib.itoa (bI M.over) from rfl, wds_one (fun c hc => (itoa_no (by rcases bI_two M.over with e | e <;> omega) c hc).1)]; rfl
  | 6 =>
    rw [show bod M 6 = Lib.itoa M.steps ++ (32 :: (Lib.itoa M.looks ++ (32 :: Lib.itoa M.hits))) from rfl, wds_more (fun c hc => (itoa_no (by have := h.steps; omega) c hc).1), wds_more (fun c hc => (itoa_no (by have := h.looks; omega) c hc).1), wds_one (fun c hc => (itoa_no (by have := h.hits; omega) c hc).1)]
    rfl
  | k + 7 =>
    have e : bod M (k + 7) = (match M.memo[k]? with
      | some x => tl x.k ++ (32 :: Lib.itoa x.r)
      | none => []) := rfl
    have e2 : wrd M (k + 7) = (match M.memo[k]? with
      | some x => [wd (k + 7), tl x.k, Lib.itoa x.r]
      | none => [wd (k + 7), []]) := rfl
    rw [e, e2]
    cases hx : M.memo[k]? with
    | none => show wd (k + 7) :: wds [] = _; rw [wds_one (fun c hc => by cases hc)]
    | some x =>
      have hm := List.mem_of_getElem? hx
      show wd (k + 7) :: wds (tl x.k ++ (32 :: Lib.itoa x.r)) = _
      rw [wds_more (fun c hc => (pl_no32 (hk x hm) c hc).1), wds_one (fun c hc => (itoa_no (by have := h.seen x hm; omega) c hc).1)]
theorem md_sav {M : Mc} (h : Mok M) (hk : ∀ x ∈ M.memo, plB (tl x.k) = true) : mdS (savT M) = some M := by
  have hW : (lns (savT M)).map wds = (List.range (7 + M.memo.length)).map (wrd M) := by
    rw [lns_sav h hk, List.map_map]
    exact List.map_congr_left (fun i _ => wds_line h hk i)
  have hat : ∀ i, i < 7 + M.memo.length → ((List.range (7 + M.memo.length)).map (wrd M)).getD i [] = wrd M i := by
    intro i hi
    rw [List.getD_eq_getElem?_getD, List.getElem?_map, List.getElem?_range hi]
    rfl
  have hml : M.memo.length ≤ 40 := by have h1 := h.room; have h2 := h.memo; omega
  obtain ⟨n, F, hn, hN, hS⟩ := tok_tab h.tab
  have hfit : fitW ((List.range (7 + M.memo.length)).map (wrd M)) = true := by
    unfold fitW
    refine decide_eq_true ⟨by simp, by simp; omega, fun i hi => ?_⟩
    have hi2 : i < 7 + M.memo.length := by simpa using hi
    rw [hat i hi2]
    match i, hi2 with
    | 0, _ => exact ⟨by show 2 ≤ [_, _].length; simp, fun e => by omega, fun e => by omega⟩
    | 1, _ => exact ⟨by show 2 ≤ [_, _].length; simp, fun e => by omega, fun e => by omega⟩
    | 2, _ => exact ⟨by show 2 ≤ [_, _].length; simp, fun e => by omega, fun e => by omega⟩
    | 3, _ => exact ⟨by show 2 ≤ [_, _].length; simp, fun e => by omega, fun e => by omega⟩
    | 4, _ => exact ⟨by show 2 ≤ [_, _].length; simp, fun e => by omega, fun e => by omega⟩
    | 5, _ => exact ⟨by show 2 ≤ [_, _].length; simp, fun e => by omega, fun e => by omega⟩
    | 6, _ => exact ⟨by show 2 ≤ [_, _, _, _].length; simp, fun e => rfl, fun e => by omega⟩
    | k + 7, hi2 =>
      have hkl : k < M.memo.length := by omega
      have e2 : wrd M (k + 7) = [wd (k + 7), tl M.memo[k].k, Lib.itoa M.memo[k].r] := by
        show (match M.memo[k]? with
          | some x => [wd (k + 7), tl x.k, Lib.itoa x.r]
          | none => [wd (k + 7), []]) = _
        rw [List.getElem?_eq_getElem hkl]
      rw [e2]
      exact ⟨by simp, fun e => by omega, fun _ => rfl⟩
  have hw : ∀ i j, i < 7 + M.memo.length → wat ((List.range (7 + M.memo.length)).map (wrd M)) i j = (wrd M i).getD j [] := fun i j hi => by unfold wat; rw [hat i hi]
  have hr := rr_row M.row (by have := h.row; omega)
  have hv := rv_vt (l := M.vals) (fun b hb => bit_in (h.bits b hb)) (by have := h.vals; omega)
  obtain ⟨k1, k2, k3⟩ := rk_key F hn
  have hkey : keyL M.N.toNat (tl M.S) = keyL n (tab n F) := by rw [hN, hS, Int.toNat_natCast]
  unfold mdS
  rw [hW, hfit, if_pos rfl, hw 0 1 (by omega), hw 1 1 (by omega)]
  show (if (rrB (rowT M.row) && rkB (keyL M.N.toNat (tl M.S))) = true then _ else none) = _
  rw [hr.1, hkey, k1, if_pos (by rfl)]
  congr 1
  unfold madeW
  rw [hw 0 1 (by omega), hw 1 1 (by omega), hw 2 1 (by omega), hw 3 1 (by omega), hw 4 1 (by omega), hw 5 1 (by omega), hw 6 1 (by omega), hw 6 2 (by omega), hw 6 3 (by omega)]
  have hm : ((List.range' 7 (((List.range (7 + M.memo.length)).map (wrd M)).length - 7)).map fun i => (⟨bs (wat ((List.range (7 + M.memo.length)).map (wrd M)) i 1), int2 (wat ((List.range (7 + M.memo.length)).map (wrd M)) i 2)⟩ : Sn)) = M.memo := by
    apply List.ext_getElem
    · simp
    · intro k hk1 hk2
      rw [List.getElem_map, List.getElem_range']
      have e2 : wrd M (7 + 1 * k) = [wd (k + 7), tl M.memo[k].k, Lib.itoa M.memo[k].r] := by
        rw [show 7 + 1 * k = k + 7 by omega]
        show (match M.memo[k]? with
          | some x => [wd (k + 7), tl x.k, Lib.itoa x.r]
          | none => [wd (k + 7), []]) = _
        rw [List.getElem?_eq_getElem hk2]
      rw [hw _ _ (by omega), hw _ _ (by omega), e2]
      have hs := h.seen _ (List.getElem_mem hk2)
      show (⟨bs (tl M.memo[k].k), int2 (Lib.itoa M.memo[k].r)⟩ : Sn) = M.memo[k]
      rw [bs_tl, int2_itoa (by omega) (by omega)]
  rw [hm]
  show (⟨rrL (rowT M.row), rkN (keyL M.N.toNat (tl M.S)), bs (cutS 58 (keyL M.N.toNat (tl M.S))), int2 (Lib.itoa M.room), rvL (vt M.vals), int2 (Lib.itoa M.ret), decide (Lib.itoa (bI M.over) = [49]), int2 (Lib.itoa M.steps), int2 (Lib.itoa M.looks), int2 (Lib.itoa M.hits), M.memo⟩ : Mc) = M
  have ho : decide (Lib.itoa (bI M.over) = [49]) = M.over := by cases M.over <;> decide +kernel
  rw [hr.2, hkey, k2, k3, hv.2, ho, int2_itoa (by have := h.room; omega) (by have := h.room; omega), int2_itoa h.ret.1 (by have := h.ret; omega), int2_itoa (by have := h.steps; omega) h.steps.2, int2_itoa (by have := h.looks; omega) h.looks.2, int2_itoa (by have := h.hits; omega) h.hits.2, ← hS, bs_tl, ← hN]

noncomputable def okL (s : List UInt8) (m : Mc) : Bool := svB m && decide (savT m = s)
noncomputable def ldP (s : List UInt8) : Option Mc := match rdS s with
  | some m => if okL s m = true then some m else none
  | none => none
noncomputable def ldM (s : List UInt8) : Option Mc := match mdS s with
  | some m => if okL s m = true then some m else none
  | none => none
theorem sv_mok {m : Mc} (h : svB m = true) : Mok m ∧ (∀ x ∈ m.memo, plB (tl x.k) = true) ∧ (savT m).length ≤ 400000 := by
  unfold svB at h
  obtain ⟨h1, h2⟩ := Bool.and_eq_true_iff.1 h
  obtain ⟨h3, h4⟩ := Bool.and_eq_true_iff.1 h2
  refine ⟨by unfold Mm2.mokB at h1; simpa using h1, fun x hx => List.all_eq_true.1 h3 x hx, of_decide_eq_true h4⟩
theorem ok_both {s : List UInt8} {m : Mc} (h : okL s m = true) : ldP s = some m ∧ ldM s = some m := by
  have h0 := h
  unfold okL at h
  obtain ⟨h1, h2⟩ := Bool.and_eq_true_iff.1 h
  obtain ⟨h3, h4, _⟩ := sv_mok h1
  have e := of_decide_eq_true h2
  constructor
  · unfold ldP
    have : rdS s = some m := by rw [← e]; exact rd_sav h3 h4
    rw [this]
    show (if okL s m = true then some m else none) = _
    rw [h0, if_pos rfl]
  · unfold ldM
    have : mdS s = some m := by rw [← e]; exact md_sav h3 h4
    rw [this]
    show (if okL s m = true then some m else none) = _
    rw [h0, if_pos rfl]
theorem ldP_ok {s : List UInt8} {m : Mc} (h : ldP s = some m) : okL s m = true := by
  unfold ldP at h
  cases hr : rdS s with
  | none => rw [hr] at h; cases h
  | some m' =>
    rw [hr] at h
    have h : (if okL s m' = true then some m' else none) = some m := h
    split at h
    · rename_i ho
      cases h
      exact ho
    · cases h
theorem ldM_ok {s : List UInt8} {m : Mc} (h : ldM s = some m) : okL s m = true := by
  unfold ldM at h
  cases hr : mdS s with
  | none => rw [hr] at h; cases h
  | some m' =>
    rw [hr] at h
    have h : (if okL s m' = true then some m' else none) = some m := h
    split at h
    · rename_i ho
      cases h
      exact ho
    · cases h
theorem ld_same (s : List UInt8) : ldP s = ldM s := by
  cases hp : ldP s with
  | some m => exact ((ok_both (ldP_ok hp)).2).symm
  | none =>
    cases hm : ldM s with
    | none => rfl
    | some m =>
      have := (ok_both (ldM_ok hm)).1
      rw [hp] at this
      cases this
end Go.Proofs.YtmjmnfegaoegjaaGreatDoor.Zl2

/- Texts split at a byte, byte by byte. -/
namespace Go.Proofs.YtmjmnfegaoegjaaGreatDoor.Zl3
open Go.RowKit
open Zl2 (split_one split_more)
set_option linter.unusedVariables false

def spl (d : UInt8) : List UInt8 → List (List UInt8)
  | [] => [[]]
  | c :: r => if c = d then [] :: spl d r else match spl d r with
    | x :: t => (c :: x) :: t
    | [] => [[c]]
theorem spl_cons_ne {d c : UInt8} (h : c ≠ d) (r : List UInt8) : spl d (c :: r) = match spl d r with
    | x :: t => (c :: x) :: t
    | [] => [[c]] := by
  show (if c = d then _ else _) = _
  rw [if_neg h]
theorem spl_cons_eq (d : UInt8) (r : List UInt8) : spl d (d :: r) = [] :: spl d r := by
  show (if d = d then _ else _) = _
  rw [if_pos rfl]
theorem spl_ne (d : UInt8) (s : List UInt8) : spl d s ≠ [] := by
  cases s with
  | nil => simp [spl]
  | cons c r =>
    unfold spl
    split
    · simp
    · split <;> simp
theorem spl_none {d : UInt8} {s : List UInt8} (h : ∀ c ∈ s, c ≠ d) : spl d s = [s] := by
  induction s with
  | nil => rfl
  | cons c r ih =>
    unfold spl
    rw [if_neg (h c (by simp)), ih (fun x hx => h x (by simp [hx]))]
theorem spl_app {d : UInt8} {a r : List UInt8} (h : ∀ c ∈ a, c ≠ d) : spl d (a ++ d :: r) = a :: spl d r := by
  induction a with
  | nil => show (if d = d then [] :: spl d r else _) = _; rw [if_pos rfl]
  | cons c l ih =>
    rw [List.cons_append, spl_cons_ne (h c (by simp)), ih (fun x hx => h x (by simp [hx]))]
theorem first_or (d : UInt8) (s : List UInt8) : (∀ c ∈ s, c ≠ d) ∨ ∃ a r, s = a ++ d :: r ∧ ∀ c ∈ a, c ≠ d := by
  induction s with
  | nil => exact .inl (fun c hc => by cases hc)
  | cons c l ih =>
    by_cases e : c = d
    · subst e; exact .inr ⟨[], l, rfl, fun c hc => by cases hc⟩
    · rcases ih with h | ⟨a, r, rfl, h⟩
      · exact .inl (fun x hx => by rcases List.mem_cons.1 hx with rfl | hx; exact e; exact h x hx)
      · exact .inr ⟨c :: a, r, rfl, fun x hx => by rcases List.mem_cons.1 hx with rfl | hx; exact e; exact h x hx⟩
theorem split_spl (d : UInt8) : ∀ (n : Nat) (s : List UInt8), s.length ≤ n → Lib.split s [d] = spl d s := by
  intro n
  induction n with
  | zero =>
    intro s hs
    have : s = [] := List.eq_nil_of_length_eq_zero (by omega)
    subst this
    exact split_one (fun c hc => by cases hc)
  | succ n ih =>
    intro s hs
    rcases first_or d s with h | ⟨a, r, rfl, h⟩
    · rw [split_one h, spl_none h]
    · rw [split_more h, spl_app h, ih r (by simp at hs; omega)]
theorem split_eq (d : UInt8) (s : List UInt8) : Lib.split s [d] = spl d s := split_spl d s.length s (Nat.le_refl _)
def lastP (d : UInt8) (s : List UInt8) : List UInt8 := (spl d s).getLast (spl_ne d s)
theorem spl_last (d : UInt8) (s : List UInt8) : (spl d s).dropLast ++ [lastP d s] = spl d s := List.dropLast_concat_getLast (spl_ne d s)
theorem spl_snoc_d (d : UInt8) (s : List UInt8) : spl d (s ++ [d]) = spl d s ++ [[]] := by
  induction s with
  | nil => show (if d = d then [] :: spl d [] else _) = _; rw [if_pos rfl]; rfl
  | cons c r ih =>
    rw [List.cons_append]
    by_cases e : c = d
    · subst e
      rw [spl_cons_eq, spl_cons_eq, ih]
      rfl
    · rw [spl_cons_ne e, spl_cons_ne e, ih]
      cases hx : spl d r with
      | nil => exact absurd hx (spl_ne d r)
      | cons x t => rfl
theorem spl_snoc (d : UInt8) {c : UInt8} (h : c ≠ d) (s : List UInt8) : spl d (s ++ [c]) = (spl d s).dropLast ++ [lastP d s ++ [c]] := by
  rcases first_or d s with hn | ⟨a, r, rfl, hn⟩
  · rw [spl_none (s := s ++ [c]) (fun x hx => by
      rcases List.mem_append.1 hx with e | e
      · exact hn x e
      · rw [List.mem_singleton.1 e]; exact h)]
    have e := spl_none hn
    have : lastP d s = s := by unfold lastP; simp [e]
    rw [this, e]
    rfl
  · have key : ∀ (n : Nat) (s : List UInt8), s.length ≤ n → spl d (s ++ [c]) = (spl d s).dropLast ++ [lastP d s ++ [c]] := by
      intro n
      induction n with
      | zero =>
        intro s hs
        have : s = [] := List.eq_nil_of_length_eq_zero (by omega)
        subst this
        show (if c = d then _ else _) = _
        rw [if_neg h]
        rfl
      | succ n ih =>
        intro s hs
        rcases first_or d s with hn | ⟨a, r, rfl, hn⟩
        · rw [spl_none (s := s ++ [c]) (fun x hx => by
            rcases List.mem_append.1 hx with e | e
            · exact hn x e
            · rw [List.mem_singleton.1 e]; exact h)]
          have e := spl_none hn
          have : lastP d s = s := by unfold lastP; simp [e]
          rw [this, e]
          rfl
        · have e1 : a ++ d :: r ++ [c] = a ++ d :: (r ++ [c]) := by simp
          have hl : lastP d (a ++ d :: r) = lastP d r := by
            unfold lastP
            simp [spl_app hn, List.getLast_cons (spl_ne d r)]
          rw [e1, spl_app hn, spl_app hn, ih r (by simp at hs; omega), hl, List.dropLast_cons_of_ne_nil (spl_ne d r)]
          rfl
    exact key _ _ (Nat.le_refl _)
end Go.Proofs.YtmjmnfegaoegjaaGreatDoor.Zl3
