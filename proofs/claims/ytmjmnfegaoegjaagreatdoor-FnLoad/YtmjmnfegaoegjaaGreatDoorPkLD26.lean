/- Small texts of mine, one behind the other. -/
import Derived.Lib.AtoiAll
import Derived.Lib.SmallJoins
import Derived.Lib.Join
import Derived.Shelf.Vars
import Derived.LaidEql
import Derived.Test.YtmjmnfegaoegjaaGreatDoorRows
import Derived.Deep.AppendLies
import Derived.OwnWalk
import Derived.Test.YtmjmnfegaoegjaaGreatDoorPkLD0
import Derived.Test.YtmjmnfegaoegjaaGreatDoorPkLD1
import Derived.Test.YtmjmnfegaoegjaaGreatDoorPkLD10
import Derived.Test.YtmjmnfegaoegjaaGreatDoorZa1
import Derived.Test.YtmjmnfegaoegjaaGreatDoorMm2
import Derived.Test.YtmjmnfegaoegjaaGreatDoorPkLD20
import Derived.Test.YtmjmnfegaoegjaaGreatDoorPkLD22
import Derived.Test.YtmjmnfegaoegjaaGreatDoorPkLD24
/- Texts cut at a byte, numbers read, keys read: plain. -/
namespace Go.Proofs.YtmjmnfegaoegjaaGreatDoor.Zk0
open Tx0 Ta1
open Ss1 (numI)
open Tk0 (keyL)
set_option linter.unusedVariables false

def cutF (c : UInt8) (s : List UInt8) : List UInt8 := s.takeWhile (fun x => x != c)
def cutS (c : UInt8) (s : List UInt8) : List UInt8 := (s.dropWhile (fun x => x != c)).drop 1
theorem cut_at (d : UInt8) (s : List UInt8) : (if 0 ≤ Lib.index s [d] then s.take (Lib.index s [d]).toNat else s) = cutF d s ∧ (if 0 ≤ Lib.index s [d] then s.drop ((Lib.index s [d]).toNat + 1) else []) = cutS d s := by
  unfold cutF cutS
  induction s with
  | nil => simp [Lib.index]
  | cons c l ih =>
    by_cases h : c = d
    · subst h
      have e : Lib.index (c :: l) [c] = 0 := by unfold Lib.index; rw [if_pos (by simp [List.isPrefixOf])]
      rw [e]
      constructor
      · simp
      · simp
    · have hc : (c != d) = true := by simp [h]
      rw [List.takeWhile_cons_of_pos (p := fun c => c != d) hc, List.dropWhile_cons_of_pos (p := fun c => c != d) hc, ← ih.1, ← ih.2]
      have e : Lib.index (c :: l) [d] = if Lib.index l [d] == -1 then -1 else Lib.index l [d] + 1 := by
        conv => lhs; unfold Lib.index
        rw [if_neg (by simp [List.isPrefixOf]; exact fun z => h z.symm)]
      have hg := Lib.index_ge l [d]
      by_cases e1 : Lib.index l [d] = -1
      · rw [e, e1]; simp
      · have h0 : 0 ≤ Lib.index l [d] := by omega
        have e2 : Lib.index (c :: l) [d] = Lib.index l [d] + 1 := by rw [e, if_neg (by simpa using e1)]
        rw [e2, if_pos (by omega), if_pos h0, if_pos (by omega), if_pos h0, show (Lib.index l [d] + 1).toNat = (Lib.index l [d]).toNat + 1 by omega, List.take_succ_cons, List.drop_succ_cons]
        exact ⟨rfl, rfl⟩
theorem cut_one (d : UInt8) (s : List UInt8) : (Lib.cut s [d]).1 = cutF d s := by
  rw [← (cut_at d s).1]
  unfold Lib.cut
  split <;> rfl
theorem cut_two (d : UInt8) (s : List UInt8) : (Lib.cut s [d]).2.1 = cutS d s := by
  rw [← (cut_at d s).2]
  unfold Lib.cut
  split <;> rfl
theorem cutF_le (c : UInt8) (s : List UInt8) : (cutF c s).length ≤ s.length := (List.takeWhile_sublist _).length_le
theorem cutS_le (c : UInt8) (s : List UInt8) : (cutS c s).length ≤ s.length := by
  unfold cutS
  rw [List.length_drop]
  have := (List.dropWhile_sublist (l := s) (fun x => x != c)).length_le
  omega
theorem cut_app (c : UInt8) (x y : List UInt8) (h : ∀ d ∈ x, d ≠ c) : cutF c (x ++ c :: y) = x ∧ cutS c (x ++ c :: y) = y := by
  unfold cutF cutS
  have hx : ∀ d ∈ x, (d != c) = true := fun d hd => bne_iff_ne.2 (h d hd)
  rw [List.takeWhile_append_of_pos hx, List.dropWhile_append_of_pos hx]
  constructor
  · rw [List.takeWhile_cons_of_neg (by simp), List.append_nil]
  · rw [List.dropWhile_cons_of_neg (by simp)]; rfl
theorem cut_lt (c : UInt8) {s : List UInt8} (h : s ≠ []) : (cutS c s).length < s.length := by
  unfold cutS
  rw [List.length_drop]
  have := (List.dropWhile_sublist (l := s) (fun x => x != c)).length_le
  have := List.length_pos_iff.2 h
  omega

def rnP (s : List UInt8) : Int × Bool := match Lib.atoiAll s with
  | .ok v => (v, true)
  | .«syntax» => (0, false)
  | .range => (Lib.atoiSat s, false)
def valF (acc : Nat) (d : List UInt8) : Nat := d.foldl (fun n c => 10 * n + (c.toNat - 48)) acc
theorem valF_zero (d : List UInt8) : valF 0 d = valL d := rfl
theorem parse_digits : ∀ (d : List UInt8) (acc : Nat), (∀ c ∈ d, isDig c = true) → (acc + 1) * 10 ^ d.length ≤ 10 ^ 18 → Lib.parseUint10 acc d = .ok (valF acc d) := by
  intro d
  induction d with
  | nil => intro acc _ _; rfl
  | cons c r ih =>
    intro acc hd hb
    have hc := of_decide_eq_true (hd c (by simp))
    have hp : 0 < 10 ^ r.length := Nat.pow_pos (by omega)
    rw [List.length_cons, Nat.pow_succ] at hb
    have h1 : (acc + 1) * 10 * 10 ^ r.length ≤ 10 ^ 18 := by
      rw [Nat.mul_assoc, Nat.mul_comm 10]; exact hb
    have h2 : (acc + 1) * 10 ≤ 10 ^ 18 := Nat.le_trans (Nat.le_mul_of_pos_right _ hp) h1
    simp only [Lib.parseUint10]
    rw [if_pos hc, if_neg (by omega), if_neg (by omega), ih _ (fun x hx => hd x (by simp [hx]))]
    · unfold valF
      rw [List.foldl_cons, Nat.mul_comm acc]
    · refine Nat.le_trans (Nat.mul_le_mul_right _ ?_) h1
      omega
theorem atoi_digits {d : List UInt8} (hd : ∀ c ∈ d, isDig c = true) (h1 : 1 ≤ d.length) (h9 : d.length ≤ 17) : Lib.atoiAll d = .ok (valL d : Int) := by
  cases d with
  | nil => simp at h1
  | cons c r =>
    have hc := of_decide_eq_true (hd c (by simp))
    have hpw : 10 ^ (c :: r).length ≤ 10 ^ 17 := Nat.pow_le_pow_right (by omega) h9
    have hp := parse_digits (c :: r) 0 hd (by omega)
    have hv : valL (c :: r) < 10 ^ (c :: r).length := val_lt _ hd
    unfold Lib.atoiAll
    simp only
    rw [if_neg (by omega)]
    unfold Lib.parseMag
    rw [if_neg (by simp), hp, valF_zero]
    simp only
    rw [if_neg (by omega), if_neg (by omega), if_neg (by omega)]
theorem dec_len' {n k : Nat} (hk : 1 ≤ k) (h : n < 10 ^ k) : 1 ≤ (dec n).length ∧ (dec n).length ≤ k := by
  unfold dec
  split
  · exact ⟨Nat.le_refl _, hk⟩
  · exact ⟨digs_one (by omega), digs_len k n h⟩
theorem rn_dec {n : Nat} (h : n < 10 ^ 17) : rnP (dec n) = ((n : Int), true) := by
  unfold rnP
  rw [atoi_digits (dec_all n) (dec_len' (by omega) h).1 (dec_len' (by omega) h).2, val_dec]
theorem rn_minus : rnP [45, 49] = (-1, true) := by decide +kernel

theorem dig_not {c d : UInt8} (h : isDig c = true) (hd : isDig d = false) : c ≠ d := fun e => by rw [e, hd] at h; cases h
def rkN (s : List UInt8) : Int := (rnP (cutF 58 s)).1
def rkB (s : List UInt8) : Bool := (rnP (cutF 58 s)).2 && (tokB (rkN s) (cutS 58 s) && decide (keyL (rkN s).toNat (cutS 58 s) = s))
theorem key_cut (n : Nat) (l : List UInt8) : cutF 58 (keyL n l) = dec n ∧ cutS 58 (keyL n l) = l := cut_app 58 (dec n) l (fun d hd => dig_not (dec_all n d hd) (by decide))
theorem rk_key {n : Nat} (F : Nat → Bool) (hn : n ≤ 12) : rkB (keyL n (tab n F)) = true ∧ rkN (keyL n (tab n F)) = (n : Int) ∧ cutS 58 (keyL n (tab n F)) = tab n F := by
  obtain ⟨h1, h2⟩ := key_cut n (tab n F)
  have h3 : rkN (keyL n (tab n F)) = (n : Int) := by unfold rkN; rw [h1, rn_dec (by omega)]
  refine ⟨?_, h3, h2⟩
  unfold rkB
  rw [h3, h2, h1, rn_dec (by omega), tab_tok F hn, Int.toNat_natCast]
  simp
theorem rk_of {s : List UInt8} (h : rkB s = true) : ∃ (n : Nat) (F : Nat → Bool), n ≤ 12 ∧ s = keyL n (tab n F) := by
  unfold rkB at h
  obtain ⟨_, h⟩ := Bool.and_eq_true_iff.1 h
  obtain ⟨h1, h2⟩ := Bool.and_eq_true_iff.1 h
  obtain ⟨n, F, hn, hN, hl⟩ := tok_tab h1
  have h3 := of_decide_eq_true h2
  rw [hN, hl, Int.toNat_natCast] at h3
  exact ⟨n, F, hn, h3.symm⟩
def mkB (s : List UInt8) : Bool := decide ((cutF 58 s).length ≤ 2 ∧ (cutF 58 s).length ≠ s.length) && (tokB (numI (cutF 58 s)) (cutS 58 s) && decide (keyL (numI (cutF 58 s)).toNat (cutS 58 s) = s))
theorem numI_dec {n : Nat} (h : n < 10 ^ 9) : numI (dec n) = (n : Int) := by unfold numI; rw [num_dec h]
theorem dec_two {n : Nat} (h : n ≤ 12) : (dec n).length ≤ 2 := (dec_len' (k := 2) (by omega) (by omega)).2
theorem mk_key {n : Nat} (F : Nat → Bool) (hn : n ≤ 12) : mkB (keyL n (tab n F)) = true ∧ numI (cutF 58 (keyL n (tab n F))) = (n : Int) := by
  obtain ⟨h1, h2⟩ := key_cut n (tab n F)
  have h3 : numI (cutF 58 (keyL n (tab n F))) = (n : Int) := by rw [h1, numI_dec (by omega)]
  refine ⟨?_, h3⟩
  unfold mkB
  rw [h3, h2, h1, tab_tok F hn, Int.toNat_natCast]
  have hl : (dec n).length ≠ (keyL n (tab n F)).length := by unfold keyL; rw [List.length_append, List.length_cons]; omega
  rw [decide_eq_true ⟨dec_two hn, hl⟩]
  simp
theorem mk_of {s : List UInt8} (h : mkB s = true) : ∃ (n : Nat) (F : Nat → Bool), n ≤ 12 ∧ s = keyL n (tab n F) := by
  unfold mkB at h
  obtain ⟨_, h⟩ := Bool.and_eq_true_iff.1 h
  obtain ⟨h1, h2⟩ := Bool.and_eq_true_iff.1 h
  obtain ⟨n, F, hn, hN, hl⟩ := tok_tab h1
  have h3 := of_decide_eq_true h2
  rw [hN, hl, Int.toNat_natCast] at h3
  exact ⟨n, F, hn, h3.symm⟩
theorem mk_rk (s : List UInt8) : mkB s = rkB s := by
  rw [Bool.eq_iff_iff]
  constructor
  · intro h
    obtain ⟨n, F, hn, rfl⟩ := mk_of h
    exact (rk_key F hn).1
  · intro h
    obtain ⟨n, F, hn, rfl⟩ := rk_of h
    exact (mk_key F hn).1
end Go.Proofs.YtmjmnfegaoegjaaGreatDoor.Zk0

/- A machine as a text: plain. -/
namespace Go.Proofs.YtmjmnfegaoegjaaGreatDoor.Zs0
open Go.RowKit
open Tx0 Ta1 Za0
open Mm0 (Mc Mok)
open Mm2 (mokB)
open Qc0 (Sn)
open Wp1 (vt vt_len)
open Ss0 (bs bs_size)
open Ss1 (tl tl_length)
open Tk0 (keyL itoa_dec)
set_option linter.unusedVariables false

def wd : Nat → List UInt8
  | 0 => [114, 111, 119]
  | 1 => [116, 97, 98, 108, 101]
  | 2 => [114, 111, 111, 109]
  | 3 => [118, 97, 108, 115]
  | 4 => [114, 101, 116]
  | 5 => [111, 118, 101, 114]
  | 6 => [99, 111, 117, 110, 116, 115]
  | _ => [115, 101, 101, 110]
def bI (b : Bool) : Int := if b = true then 1 else 0
def bod (m : Mc) : Nat → List UInt8
  | 0 => rowT m.row
  | 1 => keyL m.N.toNat (tl m.S)
  | 2 => Lib.itoa m.room
  | 3 => vt m.vals
  | 4 => Lib.itoa m.ret
  | 5 => Lib.itoa (bI m.over)
  | 6 => Lib.itoa m.steps ++ (32 :: (Lib.itoa m.looks ++ (32 :: Lib.itoa m.hits)))
  | k + 7 => match m.memo[k]? with
    | some x => tl x.k ++ (32 :: Lib.itoa x.r)
    | none => []
def lin (m : Mc) (i : Nat) : List UInt8 := wd i ++ (32 :: (bod m i ++ [10]))
def linTo (m : Mc) (k : Nat) : List (List UInt8) := (List.range k).map (lin m)
def savT (m : Mc) : List UInt8 := (linTo m (7 + m.memo.length)).flatten
theorem linTo_length (m : Mc) (k : Nat) : (linTo m k).length = k := by unfold linTo; simp
theorem linTo_next (m : Mc) (k : Nat) : linTo m (k + 1) = linTo m k ++ [lin m k] := by unfold linTo; rw [List.range_succ, List.map_append]; rfl
def plB (s : List UInt8) : Bool := decide (s ≠ [] ∧ ∀ c ∈ s, isDig c = true ∨ c = 58)
def keysB (m : Mc) : Bool := m.memo.all fun x => plB (tl x.k)
noncomputable def svB (m : Mc) : Bool := mokB m && (keysB m && decide ((savT m).length ≤ 400000))
noncomputable def svS (m : Mc) : ByteArray := if svB m = true then bs (savT m) else ⟨#[]⟩
theorem wd_len (i : Nat) : (wd i).length ≤ 6 := by
  unfold wd
  split <;> decide
theorem itoa_neg : Lib.itoa (-1) = [45, 49] := by decide +kernel
theorem itoa_len {n : Int} (h0 : -1 ≤ n) (h1 : n ≤ 1000000000) : (Lib.itoa n).length ≤ 10 := by
  by_cases h : n = -1
  · subst h; rw [itoa_neg]; decide
  · obtain ⟨k, rfl⟩ := Int.eq_ofNat_of_zero_le (by omega : 0 ≤ n)
    rw [itoa_dec]
    exact (Zk0.dec_len' (k := 10) (by omega) (by omega)).2
theorem bI_two (b : Bool) : bI b = 0 ∨ bI b = 1 := by cases b; exact .inl rfl; exact .inr rfl
theorem bod_len {m : Mc} (h : Mok m) (hk : ∀ x ∈ m.memo, x.k.size ≤ 1048576) (i : Nat) : (bod m i).length ≤ 1048600 := by
  obtain ⟨n, F, hn, hN, hS⟩ := tok_tab h.tab
  have hrow := h.row
  have hv := h.vals
  match i with
  | 0 => show (rowT m.row).length ≤ _; have := rowT_le m.row; omega
  | 1 =>
    show (keyL m.N.toNat (tl m.S)).length ≤ _
    rw [hN, hS, Int.toNat_natCast]
    unfold keyL
    rw [List.length_append, List.length_cons, tab_length]
    have := Zk0.dec_two hn
    have := (p12 hn).2
    omega
  | 2 => show (Lib.itoa m.room).length ≤ _; have := itoa_len (n := m.room) (by have := h.room; omega) (by have := h.room; omega); omega
  | 3 => show (vt m.vals).length ≤ _; have := vt_len m.vals; omega
  | 4 => show (Lib.itoa m.ret).length ≤ _; have := itoa_len (n := m.ret) h.ret.1 (by have := h.ret; omega); omega
  | 5 => show (Lib.itoa (bI m.over)).length ≤ _; have := itoa_len (n := bI m.over) (by rcases bI_two m.over with e | e <;> omega) (by rcases bI_two m.over with e | e <;> omega); omega
  | 6 =>
    show (Lib.itoa m.steps ++ (32 :: (Lib.itoa m.looks ++ (32 :: Lib.itoa m.hits)))).length ≤ _
    rw [List.length_append, List.length_cons, List.length_append, List.length_cons]
    have := itoa_len (n := m.steps) (by have := h.steps; omega) h.steps.2
    have := itoa_len (n := m.looks) (by have := h.looks; omega) h.looks.2
    have := itoa_len (n := m.hits) (by have := h.hits; omega) h.hits.2
    omega
  | k + 7 =>
    show (match m.memo[k]? with
      | some x => tl x.k ++ (32 :: Lib.itoa x.r)
      | none => []).length ≤ _
    cases hx : m.memo[k]? with
    | none => simp
    | some x =>
      have hm := List.mem_of_getElem? hx
      show (tl x.k ++ (32 :: Lib.itoa x.r)).length ≤ _
      rw [List.length_append, List.length_cons, tl_length]
      have := hk x hm
      have := itoa_len (n := x.r) (by have := h.seen x hm; omega) (by have := h.seen x hm; omega)
      omega
theorem lin_len {m : Mc} (h : Mok m) (hk : ∀ x ∈ m.memo, x.k.size ≤ 1048576) (i : Nat) : (lin m i).length ≤ 1048700 := by
  unfold lin
  rw [List.length_append, List.length_cons, List.length_append]
  have := wd_len i
  have := bod_len h hk i
  simp
  omega
theorem linTo_flat {m : Mc} (h : Mok m) (hk : ∀ x ∈ m.memo, x.k.size ≤ 1048576) (k : Nat) : (linTo m k).flatten.length ≤ k * 1048700 := by
  induction k with
  | zero => simp [linTo]
  | succ k ih =>
    rw [linTo_next, List.flatten_append, List.length_append]
    have := lin_len h hk k
    rw [List.flatten_cons, List.flatten_nil, List.append_nil]
    omega
theorem join_none (L : List (List UInt8)) : Lib.join L [] = L.flatten := by
  cases L with
  | nil => rfl
  | cons x r =>
    rw [Lib.join_cons]
    unfold Lib.joinTail
    rw [show (fun y : List UInt8 => ([] : List UInt8) ++ y) = id from rfl, List.map_id]
    rfl
end Go.Proofs.YtmjmnfegaoegjaaGreatDoor.Zs0

/- The library's variables that reading wants; strings.Cut at a byte, strconv.Atoi, the program's readNumber. -/
namespace Go.Proofs.YtmjmnfegaoegjaaGreatDoor.Zt0
open Go.RowKit
open Nd0 (lt_of_cell)
open Ss0 (bs bs_size)
open Ss1 (tl tl_bs bs_tl tl_length)
open Tk0 (TabK laid_at tabk_of_laid)
open Zk0
set_option linter.unusedVariables false

structure TabZ (w : World) : Prop where
  pow : TabK w
  err : ∃ te pe, w.cell? ⟨2, 0, none⟩ = some (.iface te pe)
  rng : ∃ te pe, w.cell? ⟨3, 0, none⟩ = some (.iface te pe)
  max : ∃ m, w.cell? ⟨1, 0, none⟩ = some (.int .i64 m)
theorem TabZ.below {w w' : World} (h : TabZ w) (k : Below w.heap.size w w') : TabZ w' := by
  obtain ⟨te, pe, hc⟩ := h.err
  obtain ⟨t2, p2, hd⟩ := h.rng
  obtain ⟨m, hm⟩ := h.max
  exact ⟨h.pow.below k, ⟨te, pe, by rw [k.cell (p := ⟨_, 0, none⟩) (lt_of_cell hc)]; exact hc⟩, ⟨t2, p2, by rw [k.cell (p := ⟨_, 0, none⟩) (lt_of_cell hd)]; exact hd⟩, ⟨m, by rw [k.cell (p := ⟨_, 0, none⟩) (lt_of_cell hm)]; exact hm⟩⟩
theorem iface_of_trod {P : Program} {W : World} {fuel : Nat} {t : TypeId} {cs : List Value} {nm : String} {d : DataW Unit} {p : List MemPlace} {ms : Array (String × TypeId)} (hu : P.underlying t = some (.interface ms))
    (h : DataW.trod (fun _ => ()) P W 0 (fun _ => true) false fuel t cs = some (.iface nm d, p)) : ∃ te pe, cs = [.iface te pe] := by
  cases fuel with
  | zero => simp [DataW.trod] at h
  | succ f =>
    unfold DataW.trod at h
    rw [hu] at h
    match cs, h with
    | [], h => simp at h
    | [x], h =>
      cases x with
      | iface te pe => exact ⟨te, pe, rfl⟩
      | _ => simp at h
    | x :: y :: r, h => simp at h
theorem gErr : Tryz.prog.globalNamed "strconv.ErrSyntax" = some 2 := by kernel_rfl
theorem gtErr : (Tryz.prog.globals[2]?).map (·.type) = some 64 := by kernel_rfl
theorem gRng : Tryz.prog.globalNamed "strconv.ErrRange" = some 3 := by kernel_rfl
theorem gtRng : (Tryz.prog.globals[3]?).map (·.type) = some 64 := by kernel_rfl
theorem max_of_shaped {w : World} (h : w.ShapedOpen Tryz.prog) : ∃ m, w.cell? ⟨1, 0, none⟩ = some (.int .i64 m) :=
  cell_of_shapedOpen_int (t := 3) (zero := #[.int .i64 0]) h (of_decide_eq_true (by kernel_rfl)) (by kernel_rfl) rfl (by kernel_rfl) (by kernel_rfl) Tryz.underlying3
theorem tabz_of_laid {W : World} {laid : List (String × DataW Unit)} (h : laidMet Tryz.prog laid W)
    (h1 : ("internal/strconv.uint64pow10", Rows.laid_internal_strconv_uint64pow10) ∈ laid) (h2 : ("strconv.ErrSyntax", Rows.laid_strconv_ErrSyntax) ∈ laid) (h3 : ("strconv.ErrRange", Rows.laid_strconv_ErrRange) ∈ laid) (h4 : W.ShapedOpen Tryz.prog) : TabZ W := by
  refine ⟨tabk_of_laid h h1, ?_, ?_, max_of_shaped h4⟩
  · obtain ⟨ps, hL, _⟩ := h
    obtain ⟨g, t, cs, fuel, p, e1, e2, e3, e4⟩ := laid_at hL h2
    obtain rfl := Option.some.inj (gErr.symm.trans e1)
    obtain rfl := Option.some.inj (gtErr.symm.trans e2)
    rw [World.var?_cell e1 e3 0]
    obtain ⟨te, pe, hc⟩ := iface_of_trod Tryz.underlying64 e4
    refine ⟨te, pe, ?_⟩
    rw [← Array.getElem?_toList, hc]; rfl
  · obtain ⟨ps, hL, _⟩ := h
    obtain ⟨g, t, cs, fuel, p, e1, e2, e3, e4⟩ := laid_at hL h3
    obtain rfl := Option.some.inj (gRng.symm.trans e1)
    obtain rfl := Option.some.inj (gtRng.symm.trans e2)
    rw [World.var?_cell e1 e3 0]
    obtain ⟨te, pe, hc⟩ := iface_of_trod Tryz.underlying64 e4
    refine ⟨te, pe, ?_⟩
    rw [← Array.getElem?_toList, hc]; rfl

theorem iCut (c : UInt8) (S : ByteArray) (w : World) (hT : TabZ w) (hs : S.size ≤ 1048576) :
    Calls Tryz.prog 47 #[.string S, .string ⟨#[c]⟩] w fun e w' => (∃ b : Bool, e = .returned (.tuple #[.string (bs (cutF c (tl S))), .string (bs (cutS c (tl S))), .bool b])) ∧ Below w.heap.size w w' := by
  obtain ⟨m, hm⟩ := hT.max
  refine (Tryz.strings_Cut S ⟨#[c]⟩ m w (by omega) hm).mono ?_
  rintro e w' ⟨rfl, n, rfl⟩
  refine ⟨⟨(Lib.cut (tl S) [c]).2.2, ?_⟩, Tc2.below_drewN (Below.refl w.heap.size w) n⟩
  rw [← cut_one, ← cut_two]
  rfl
theorem iAtoi (S : ByteArray) (w : World) (hT : TabZ w) (hs : S.size ≤ 1048576) :
    Calls Tryz.prog 91 #[.string S] w fun e w' => (∃ ev, e = .returned (.tuple #[.int .i64 (rnP (tl S)).1, ev]) ∧ ((rnP (tl S)).2 = true → ev = .nilIface) ∧ ((rnP (tl S)).2 = false → ∃ N, ev = .iface 187 (.pointer (some ⟨N, 0, none⟩)))) ∧ Below w.heap.size w w' := by
  unfold rnP
  cases h : Lib.atoiAll (tl S) with
  | ok v =>
    refine (Tryz.strconv_Atoi_ok S (by omega) v h w).mono ?_
    rintro e w' ⟨rfl, hh⟩
    refine ⟨⟨_, rfl, fun _ => rfl, fun e => by cases e⟩, ?_⟩
    rcases hh with rfl | ⟨t, rfl⟩
    · exact Below.refl _ _
    · exact Go.Joins.below_bytesWorld _ _ _ _ (Nat.le_refl _)
  | «syntax» =>
    obtain ⟨te, pe, hc⟩ := hT.err
    refine (Tryz.strconv_Atoi_syntax S (by omega) h _ w hc (.inr ⟨te, pe, rfl⟩)).mono ?_
    rintro e w' ⟨N, rfl, _, _, hb⟩
    exact ⟨⟨_, rfl, fun e => (by cases e), fun _ => ⟨N, rfl⟩⟩, hb⟩
  | range =>
    obtain ⟨te, pe, hc⟩ := hT.rng
    refine (Tryz.strconv_Atoi_range S (by omega) h _ w hc (.inr ⟨te, pe, rfl⟩)).mono ?_
    rintro e w' ⟨N, rfl, _, _, hb⟩
    exact ⟨⟨_, rfl, fun e => (by cases e), fun _ => ⟨N, rfl⟩⟩, hb⟩
set_option maxRecDepth 100000 in
set_option maxHeartbeats 1000000 in
theorem iReadNumber (S : ByteArray) (w : World) (hT : TabZ w) (hs : S.size ≤ 1048576) :
    Calls Tryz.prog 48 #[.string S] w fun e w' => e = .returned (.tuple #[.int .i64 (rnP (tl S)).1, .bool (rnP (tl S)).2]) ∧ Below w.heap.size w w' := by
  have HA : Hid _ := iAtoi S w hT hs
  clear hT hs
  generalize hx : (rnP (tl S)).1 = x at *
  clear hx
  cases hy : (rnP (tl S)).2
  · rw [hy] at HA
    clear hy
    go_enter Tryz.func48, Tryz.ntmps48
    go_wp2_with fail
    refine Calls.mono HA.out ?_
    rintro e w1 ⟨⟨ev, rfl, _, hev⟩, hb⟩
    obtain ⟨N, rfl⟩ := hev (by trivial)
    have HB : Hid (Below w.heap.size w w1) := hb
    clear hb hev
    go_wp2_with fail
    go_quiet (fail)
    go_wp2
    go_ret2
    exact ⟨rfl, Tc2.below_drewN HB.out _⟩
  · rw [hy] at HA
    clear hy
    go_enter Tryz.func48, Tryz.ntmps48
    go_wp2_with fail
    refine Calls.mono HA.out ?_
    rintro e w1 ⟨⟨ev, rfl, hev, _⟩, hb⟩
    obtain rfl := hev (by trivial)
    have HB : Hid (Below w.heap.size w w1) := hb
    clear hb hev
    go_wp2_with fail
    go_quiet (fail)
    go_wp2
    go_ret2
    exact ⟨rfl, Tc2.below_drewN HB.out _⟩
end Go.Proofs.YtmjmnfegaoegjaaGreatDoor.Zt0

/- Lists of texts that are appended to: the law at the walk, and how they are read. -/
namespace Go.Proofs.YtmjmnfegaoegjaaGreatDoor.Ap4
open Go.RowKit
open Nd0 Ss0 Ss2
set_option linter.unusedVariables false

theorem infoStr : (Tryz.prog.info? 9).map (fun i => (i.zero, i.size, i.bytes)) = some (some (.string ⟨#[]⟩), 1, 16) := by kernel_rfl

def Ost (w : World) (B : Nat) (v : Value) (l : List (List UInt8)) : Prop := w.ownsRow B 9 1 v l.length (l.map fun x => .string (bs x))

theorem Ost.form {w : World} {B : Nat} {v : Value} {l : List (List UInt8)} (h : Ost w B v l) : ∃ a c, v = .slice a l.length c ∧ Strs w a l := by
  obtain ⟨h1, h2⟩ := h
  rcases h2 with ⟨rfl, h0⟩ | ⟨g, cap, cur, rfl, hb, hg, hn, hm, hs, ht⟩
  · have : l = [] := List.eq_nil_of_length_eq_zero h0
    subst this
    exact ⟨none, 0, rfl, Nat.zero_le _, .inl rfl⟩
  · refine ⟨_, _, rfl, by omega, .inr ⟨g, 0, rfl, fun i hi => ?_⟩⟩
    · rw [Nat.zero_add, cell_of_row w g i cur _ _ hg]
      have e : (cur.toList.take (l.length * 1))[i]? = some (.string (bs l[i])) := by rw [ht]; simp [hi]
      rw [List.getElem?_take_of_lt (by omega)] at e
      simpa using e
theorem Ost.lit (w : World) (B : Nat) (hB : B ≤ w.heap.size) : Ost (w.alloc (.cells #[] 9)) B (.slice (some ⟨w.heap.size, 0, none⟩) 0 0) [] :=
  World.ownsRow_lit w #[] 0 hB (Nat.zero_le _) rfl
theorem Ost.lt {w : World} {B : Nat} {v : Value} {l : List (List UInt8)} (h : Ost w B v l) : ∀ k, v.ownBlock = some k → B ≤ k ∧ k < w.heap.size := World.ownsRow.lt h
theorem Ost.kept {w w' : World} {B : Nat} {v : Value} {l : List (List UInt8)} (h : Ost w B v l) {S : Nat → Prop} (k : Kept S w w') (hs : ∀ i, v.ownBlock = some i → ¬ S i) : Ost w' B v l := by
  refine ⟨h.1, ?_⟩
  rcases h.2 with hn | ⟨g, cap, cur, rfl, hb, hgg, rest⟩
  · exact .inl hn
  · refine .inr ⟨g, cap, cur, rfl, hb, ?_, rest⟩
    rw [k.block g (Array.getElem?_eq_some_iff.1 hgg).1 (hs g rfl)]
    exact hgg

theorem app_str {ops : Array Oper} {rest : List Oper} {o : Oper} {a : Act} {Q : Exit → Act → World → Prop} (W : World) (hgd : o.guard = none) (s x : Operand)
    (ho : o.op = .call { callee := .builtin .append, args := #[s, x], argTypes := #[91, 91] })
    (B : Nat) (v : Value) (l : List (List UInt8)) (y : List UInt8) (hs : a.eval s = v) (hx : a.eval x = .slice (some ⟨W.heap.size, 0, none⟩) 1 1)
    (hown : Ost W B v l) (hB : B ≤ W.heap.size) (hlen : l.length ≤ 1048576)
    (h : ∀ g cap w', Ost w' B (.slice (some ⟨g, 0, none⟩) (l.length + 1) cap) (l ++ [y]) → Kept (fun k => v.ownBlock = some k) W w' → (v.ownBlock = some g ∨ W.heap.size ≤ g) → wpList Tryz.prog ops Q rest (a.put o.dst (.slice (some ⟨g, 0, none⟩) (l.length + 1) cap)) w') :
    wpList Tryz.prog ops Q (o :: rest) a (W.alloc (.cells #[.string (bs y)] 9)) := by
  obtain ⟨i, hi, hzz⟩ := Option.map_eq_some_iff.1 infoStr
  simp only [Prod.mk.injEq] at hzz
  obtain ⟨hz, hsz, hb⟩ := hzz
  refine wpList_append_lies (W.alloc (.cells #[.string (bs y)] 9)) hgd s x 91 ho B 9 i (.string ⟨#[]⟩) 1 16 Tryz.underlying91 hi hz hsz hb rfl (by omega) v l.length (l.map fun x => .string (bs x)) hs (World.ownsRow.alloc hown _)
    ⟨W.heap.size, 0, none⟩ 1 1 [.string (bs y)] hx rfl ?_ ?_ (by omega) (by unfold maxLen; omega) (by omega) (by simp; omega) _ rfl ?_
  · intro j u hu
    exact World.news_of_block (heap_alloc_new W _) j u hu
  · intro u hu
    simp at hu
    subst hu
    rfl
  · intro g cap w' h1 h2 h3 h4
    refine h g cap w' ?_ ?_ ?_
    · unfold Ost
      simpa using h1
    · have k1 : Kept (fun k => v.ownBlock = some k) W (W.alloc (.cells #[.string (bs y)] 9)) := (Kept.refl _ W).alloc _
      exact k1.trans ⟨h2.os, h2.tape, h2.output, h2.size, fun k hk hn => h2.block k hk (fun e => hn e.symm)⟩
    · rcases h3 with h3 | h3
      · exact .inl h3
      · exact .inr (by rw [h3]; simp)

end Go.Proofs.YtmjmnfegaoegjaaGreatDoor.Ap4
