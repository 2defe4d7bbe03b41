/- Small texts of mine, one behind the other. -/
import Derived.Test.YtiojfommmmggoaaDw4
import Derived.Test.YtiojfommmmggoaaSp11
import Derived.Test.YtiojfommmmggoaaPkDE41
import Derived.Test.YtiojfommmmggoaaPkDE14
import Derived.Test.YtiojfommmmggoaaPkDE3
import Derived.Test.YtiojfommmmggoaaPkDE19
import Derived.Test.YtiojfommmmggoaaPkDE10
import Derived.Test.YtiojfommmmggoaaPkDE21
import Derived.Test.YtiojfommmmggoaaPkDE34
/- Formulas of every depth drawn; the draw of a sentence. -/
namespace Go.Proofs.Ytiojfommmmggoaa.Dw5
open Go.RowKit
open Nd0 Nd3 Ap2 Dw0 Dw1 Dw2 Dw3 Dw4 Tm0 Tm6
open Dr0 (Cur Only Bytes Off)
open Dr1 (once below)
open Sp11 (sSentence)
set_option linter.unusedVariables false

theorem madeC (d : Nat) : MadeC d := by
  induction d with
  | zero => exact madeAny 0 (fun d h => by omega)
  | succ d ih => exact madeAny (d + 1) (fun d' h => by have : d' = d := by omega
                                                       subst this; exact ih)

def SPost (b : Nat) (a : Option Addr) (len cap : Nat) (w : World) (e : Ending) (w' : World) : Prop :=
  ∃ (g c : Nat) (L : List Nd), e = .returned (.slice (some ⟨g, 0, none⟩) L.length c) ∧ Dr w' b a len cap (.slice (some ⟨g, 0, none⟩) L.length c) L ∧ Kept (fun k => k = b) w w' ∧ 1 ≤ L.length ∧ L.length ≤ 80 ∧ w.heap.size ≤ g

theorem own_at {w : World} {B : Nat} {v : Value} {l : List Nd} (h : Ap2.Own w B v l) (hl : 1 ≤ l.length) : ∃ g c, v = .slice (some ⟨g, 0, none⟩) l.length c := by
  obtain ⟨h1, h2⟩ := h
  rcases h2 with ⟨rfl, h0⟩ | ⟨g, cap, cur, rfl, _⟩
  · omega
  · exact ⟨g, cap, rfl⟩
theorem sent_len {l : List Nd} (h : sentB l = true) : 1 ≤ l.length := by
  have : termOk l = true := by
    cases ht : termOk l
    · rw [sent_term ht] at h; cases h
    · rfl
  exact (term_len this).1
theorem stp_kept {b : Nat} {v v' : Value} {w0 w w' : World} (hk : Kept (fun k => k = b) w0 w) (s : Stp b v v' w w') (hv : ∀ k, v.ownBlock = some k → w0.heap.size ≤ k) : Kept (fun k => k = b) w0 w' := by
  refine ⟨s.kept.os.trans hk.os, s.kept.tape.trans hk.tape, s.kept.output.trans hk.output, Nat.le_trans hk.size s.kept.size, fun i hi hb => ?_⟩
  rw [s.kept.block i (Nat.lt_of_lt_of_le hi hk.size) (fun e => ?_)]
  · exact hk.block i hi hb
  · rcases e with e | e
    · exact hb e
    · have := hv i e; omega

set_option maxRecDepth 100000 in
set_option maxHeartbeats 4000000 in
theorem sentence (w : World) (b : Nat) (a : Option Addr) (len cap : Nat) (bits : Int) (hc : Cur w b a len cap) (hlo : Low a len b) (hb0 : 0 ≤ bits) (hb1 : bits ≤ 100) :
    Calls Try.prog 16 #[.pointer (some ⟨b, 0, none⟩), .int .i64 bits] w (SPost b a len cap w) := by
  have hbs := hc.lt
  have hB1 : Below w.heap.size w (w.alloc (.cells #[] 49)) := (Below.refl _ _).alloc (Nat.le_refl _) _
  have hB2 : Below w.heap.size w ((w.alloc (.cells #[] 49)).alloc (.cells #[] 49)) := hB1.alloc (by simp) _
  have HD : Hid (Dr ((w.alloc (.cells #[] 49)).alloc (.cells #[] 49)) b a len cap (.slice (some ⟨w.heap.size, 0, none⟩) 0 0) []) :=
    ⟨cur_kept hc (S := fun _ => False) (Kept.ofBelow hB2) (fun h => h) (.inr fun _ _ h => h), World.ownsRow.alloc (Own.lit w _ (by omega)) _, hlo⟩
  have HK : Hid (Kept (fun k => k = b) w ((w.alloc (.cells #[] 49)).alloc (.cells #[] 49))) := Kept.ofBelow hB2
  clear hc hlo hB1 hB2
  go_enter Try.func16, Try.ntmps16
  go_wp2_with fail
  refine (madeC 4 _ b a len cap (.slice (some ⟨w.heap.size, 0, none⟩) 0 0) [] (some ⟨w.heap.size + 1, 0, none⟩) [] 0 0 bits 4 rfl HD.out ⟨⟨Nat.zero_le _, .inl rfl⟩, fun x h => absurd h (Nat.not_lt_zero _)⟩ (fun i h => absurd h (Nat.not_lt_zero _)) (by simp) (by omega) hb0 hb1 (by show 0 + gd 4 ≤ _; decide)).mono ?_
  rintro e w1 ⟨v1, L1, at1, n1, lf1, rfl, hd, hs, hl, _, _, _, _⟩
  obtain ⟨ta, tc, rfl⟩ := hd.slice
  have HD1 : Hid (Dr w1 b a len cap (.slice ta L1.length tc) L1) := hd
  have HK1 : Hid (Kept (fun k => k = b) w w1) := stp_kept HK.out hs (fun k hk => by cases hk; exact Nat.le_refl _)
  have hl1 : L1.length ≤ 700 := by
    have : gd 4 = 655 := by decide
    simp at hl; omega
  have HG1 : Hid (∀ k, (Value.slice ta L1.length tc).ownBlock = some k → w.heap.size ≤ k) := by
    show ∀ _, _
    intro k hk
    rcases hs.new k hk with e | e
    · cases e; exact Nat.le_refl _
    · simp at e; omega
  clear hd hs hl HD HK
  have HLIT : Hid (∀ wz : World, Dr wz b a len cap (.slice ta L1.length tc) L1 → Kept (fun k => k = b) w wz → SPost b a len cap w (.returned (.slice (some ⟨wz.heap.size, 0, none⟩) 2 2)) (wz.alloc (.cells #[.int .i64 1, .int .i64 1, .int .i64 0, .int .i64 0, .int .i64 0, .int .i64 0, .int .i64 20, .int .i64 1, .int .i64 0, .int .i64 0, .int .i64 1, .int .i64 0] 49))) := by
    show ∀ _, _
    intro wz hd hk
    refine ⟨wz.heap.size, 2, [⟨1, 1, 0, 0, 0, 0⟩, ⟨20, 1, 0, 0, 1, 0⟩], rfl, ⟨cur_kept hd.cur (S := fun _ => False) ((Kept.refl _ _).alloc _) (fun h => h) (.inr fun _ _ h => h), ?_, hd.low⟩, hk.alloc _, by simp, by simp, hk.size⟩
    exact World.ownsRow_lit wz #[.int .i64 1, .int .i64 1, .int .i64 0, .int .i64 0, .int .i64 0, .int .i64 0, .int .i64 20, .int .i64 1, .int .i64 0, .int .i64 0, .int .i64 1, .int .i64 0] 2 hd.size (by decide) rfl
  by_cases h80 : 80 < L1.length
  · have h81 : (80 : Int) < (L1.length : Int) := by omega
    go_wp2
    go_ret
    exact HLIT.out _ HD1.out HK1.out
  · have h81 : ¬ (80 : Int) < (L1.length : Int) := by omega
    go_wp2_with fail
    obtain ⟨a2, c2, hv2, hw2⟩ := HD1.out.own.form
    cases hv2
    refine (sSentence _ _ L1 _ hw2.nodes).mono ?_
    rintro e w2 ⟨rfl, hb2⟩
    have HD2 : Hid (Dr w2 b a len cap (.slice ta L1.length tc) L1) := HD1.out.below hb2
    have HK2 : Hid (Kept (fun k => k = b) w w2) := HK1.out.trans (Kept.ofBelow hb2)
    clear hb2 hw2
    cases hS : sentB L1
    · go_wp2
      go_ret
      exact HLIT.out _ HD2.out HK2.out
    · have h1 := sent_len hS
      obtain ⟨g3, c3, hv3⟩ := own_at HD2.out.own h1
      cases hv3
      clear hS
      go_wp2
      go_ret
      exact ⟨g3, tc, L1, rfl, HD2.out, HK2.out, h1, by omega, HG1.out _ rfl⟩

end Go.Proofs.Ytiojfommmmggoaa.Dw5

/- The draw of any list of nodes: a sentence, spoilt or not. -/
namespace Go.Proofs.Ytiojfommmmggoaa.Dw6
open Go.RowKit
open Nd0 Nd3 Ap2 Dw0 Dw1 Dw2 Dw3 Dw4 Dw5
open Dr0 (Cur Only Bytes Off)
open Dr1 (once below)

set_option linter.unusedVariables false

end Go.Proofs.Ytiojfommmmggoaa.Dw6

/- The walk of the draw of any list of nodes. -/
namespace Go.Proofs.Ytiojfommmmggoaa.Dw7
open Go.RowKit
open Nd0 Nd3 Ap2 Dw0 Dw1 Dw2 Dw3 Dw4 Dw5 Dw6
open Dr0 (Cur Only Bytes Off)
open Dr1 (once below)

set_option linter.unusedVariables false

end Go.Proofs.Ytiojfommmmggoaa.Dw7

/- The draws of chapters 2 and 4: a list of nodes, one with free variables, values for them. -/
namespace Go.Proofs.Ytiojfommmmggoaa.Dw8
open Go.RowKit
open Nd0 Nd3 Ap0 Ap2 Tm5 Dw0 Dw4 Dw5 Dw6 Dw7
open Dr0 (Cur Only Bytes Off)
open Dr1 (once below)
open Sp10 (sQuant)
set_option linter.unusedVariables false

theorem low_of {w : World} {a : Option Addr} {len : Nat} (h : Bytes w a len) : Low a len w.heap.size := by
  rcases h.2 with h0 | ⟨xb, xo, rfl, hc⟩
  · exact .inl h0
  · by_cases hl : len = 0
    · exact .inl hl
    · refine .inr fun x hx => ?_
      cases hx
      obtain ⟨v, _, _, hv⟩ := hc 0 (by omega)
      exact lt_of_cell (p := ⟨xb, xo + 0, none⟩) hv

def NPost (w : World) (e : Ending) (w' : World) : Prop :=
  ∃ (g c : Nat) (L : List Nd), e = .returned (.slice (some ⟨g, 0, none⟩) L.length c) ∧ Nodes w' (some ⟨g, 0, none⟩) L ∧ Below w.heap.size w w' ∧ 1 ≤ L.length ∧ L.length ≤ 81 ∧ L.length ≤ c

end Go.Proofs.Ytiojfommmmggoaa.Dw8

/- A sentence that is drawn (DrawSaid). -/
namespace Go.Proofs.Ytiojfommmmggoaa.Ds0
open Go.RowKit
open Nd0 Nd3 Tm0 Tm6 Ap2 Ap7 Dr0 Dr1 Dr4 Dw0 Dw1 Dw5 Dw8
set_option linter.unusedVariables false

set_option maxHeartbeats 1000000 in
theorem drawSaid (w : World) (a : Option Addr) (len cap : Nat) (hb : Bytes w a len) :
    Calls Try.prog 5 #[.slice a len cap] w (NPost w) := by
  have HB : Hid (Bytes w a len) := hb
  clear hb
  go_enter Try.func5, Try.ntmps5
  go_wp2_with fail
  refine (Dr4.new _ a len cap HB.out).mono ?_
  rintro e w1 ⟨rfl, hc, hb1⟩
  have HC : Hid (Cur w1 w.heap.size a len cap) := hc
  have HB1 : Hid (Below w.heap.size w w1) := hb1
  clear hc hb1
  go_wp2_with fail
  refine (sentence _ w.heap.size a len cap 8 HC.out (low_of HB.out) (by omega) (by omega)).mono ?_
  rintro e w2 ⟨g, c, L, rfl, hd, hk, h1, h2, h3⟩
  have HP : Hid (Nodes w2 (some ⟨g, 0, none⟩) L ∧ Below w.heap.size w w2) := by
    obtain ⟨a9, c9, hv9, hw9⟩ := hd.own.form
    cases hv9
    exact ⟨hw9.nodes, HB1.out.trans (hk.below (fun k (e : k = w.heap.size) => by omega) HB1.out.size)⟩
  have hcc : L.length ≤ c := (own_cap hd.own).2
  clear hd hk
  go_wp2
  go_ret
  exact ⟨g, c, L, rfl, HP.out.1, HP.out.2, h1, by omega, hcc⟩

end Go.Proofs.Ytiojfommmmggoaa.Ds0

/- Walks of what the laws themselves call: a byte of the code, whether the code is too great. -/
namespace Go.Proofs.Ytiojfommmmggoaa.Lw4
open Go.RowKit
open Dr0 Dr1
open Ws1 (ret_int ret_bool)
set_option linter.unusedVariables false

set_option maxHeartbeats 400000 in
theorem lbig (w : World) (a : Option Addr) (len cap : Nat) (b : Bool) (hb : b = decide (1048576 < len)) :
    Calls Try.prog 4 #[.slice a len cap] w fun e w' => e = .returned (.bool b) ∧ w' = w := by
  subst hb
  go_enter Try.func4, Try.ntmps4
  go_wp2
  go_ret
  exact ⟨ret_bool (by rw [Bool.eq_iff_iff]; simp; omega), rfl⟩

end Go.Proofs.Ytiojfommmmggoaa.Lw4

/- The verdict of the quantifiers' row and the table of the rest is what they are worth: plain facts. -/
namespace Go.Proofs.Ytiojfommmmggoaa.Dh0
open Nd0 Qa0 Tm6 Tr0 Vl1 Fr0 Fr1 To0 De0
open Ta3 (hb)
set_option linter.unusedVariables false

def rowL : List Qu → List Bool
  | [] => []
  | x :: q => List.replicate x.bits.toNat x.all ++ rowL q
theorem rowL_len (q : List Qu) : (rowL q).length = bitL q := by
  induction q with
  | nil => rfl
  | cons x q ih => simp only [rowL, bitL, List.length_append, List.length_replicate, ih]
theorem rowL_app (p q : List Qu) : rowL (p ++ q) = rowL p ++ rowL q := by
  induction p with
  | nil => rfl
  | cons x p ih => simp only [List.cons_append, rowL, ih, List.append_assoc]
theorem rowTo_L (q : List Qu) : ∀ k, k ≤ q.length → rowTo q k = rowL (q.take k) := by
  intro k
  induction k with
  | zero => intro _; simp [rowTo, rowL]
  | succ k ih =>
    intro hk
    have e : q.take (k + 1) = q.take k ++ [qth q k] := by rw [List.take_succ_eq_append_getElem (by omega), qth_get (by omega)]
    rw [e, rowL_app, ← ih (by omega)]
    simp [rowTo, rowL]
theorem rows_L {q : List Qu} (h : fewB q = true) : rowsL q = rowL q := by
  unfold rowsL
  rw [h, if_pos rfl, rowTo_L q q.length (Nat.le_refl _), List.take_length]
theorem dc_cons (q : Bool) (r : List Bool) (F : Nat → Bool) : dc (q :: r) F = if q = true then dc r (hb r.length 0 F) && dc r (hb r.length 1 F) else dc r (hb r.length 0 F) || dc r (hb r.length 1 F) := rfl
theorem dc_rep (al : Bool) (r : List Bool) : ∀ (b : Nat) (F : Nat → Bool), dc (List.replicate b al ++ r) F = true ↔ (if al = true then ∀ i, i < 2 ^ b → dc r (fun p => F (i * 2 ^ r.length + p)) = true else ∃ i, i < 2 ^ b ∧ dc r (fun p => F (i * 2 ^ r.length + p)) = true) := by
  intro b
  induction b with
  | zero =>
    intro F
    have e : dc r F = dc r (fun p => F (0 * 2 ^ r.length + p)) := dc_ext r fun p _ => by rw [Nat.zero_mul, Nat.zero_add]
    show dc r F = true ↔ _
    rw [e]
    split
    · exact ⟨fun h i hi => by obtain rfl : i = 0 := by omega
                              exact h, fun h => h 0 (by omega)⟩
    · exact ⟨fun h => ⟨0, by omega, h⟩, fun ⟨i, hi, h⟩ => by
        obtain rfl : i = 0 := by omega
        exact h⟩
  | succ b ih =>
    intro F
    have hL : (List.replicate b al ++ r).length = b + r.length := by simp
    have hblk : ∀ c i, dc r (fun p => hb (b + r.length) c F (i * 2 ^ r.length + p)) = dc r (fun p => F ((c * 2 ^ b + i) * 2 ^ r.length + p)) := fun c i => dc_ext r fun p _ => by
      show F _ = F _
      rw [Nat.pow_add, Nat.add_mul, Nat.mul_assoc, Nat.add_assoc]
    have h0 := ih (hb (b + r.length) 0 F)
    have h1 := ih (hb (b + r.length) 1 F)
    have e2 : 2 ^ (b + 1) = 2 ^ b + 2 ^ b := by rw [Nat.pow_succ]; omega
    rw [List.replicate_succ, List.cons_append]
    rw [dc_cons, hL]
    cases al with
    | true =>
      simp only [if_true] at h0 h1 ⊢
      rw [Bool.and_eq_true, h0, h1]
      constructor
      · rintro ⟨k0, k1⟩ i hi
        by_cases hc : i < 2 ^ b
        · have := k0 i hc
          rw [hblk] at this
          simpa using this
        · have := k1 (i - 2 ^ b) (by omega)
          rw [hblk] at this
          have e : 1 * 2 ^ b + (i - 2 ^ b) = i := by omega
          rw [e] at this
          exact this
      · intro k
        refine ⟨fun i hi => ?_, fun i hi => ?_⟩
        · rw [hblk]
          have := k i (by omega)
          simpa using this
        · rw [hblk]
          have := k (2 ^ b + i) (by omega)
          rw [Nat.one_mul]
          exact this
    | false =>
      simp only [Bool.false_eq_true, if_false] at h0 h1 ⊢
      rw [Bool.or_eq_true, h0, h1]
      constructor
      · rintro (⟨i, hi, k⟩ | ⟨i, hi, k⟩)
        · rw [hblk] at k
          exact ⟨i, by omega, by simpa using k⟩
        · rw [hblk, Nat.one_mul] at k
          exact ⟨2 ^ b + i, by omega, k⟩
      · rintro ⟨i, hi, k⟩
        by_cases hc : i < 2 ^ b
        · exact .inl ⟨i, hc, by rw [hblk]; simpa using k⟩
        · refine .inr ⟨i - 2 ^ b, by omega, ?_⟩
          rw [hblk]
          have e : 1 * 2 ^ b + (i - 2 ^ b) = i := by omega
          rw [e]
          exact k
def envE : List Int → List Qu → Nat → List Int
  | e, [], _ => e
  | e, x :: q, p => envE (e.set x.vr.toNat ((p / 2 ^ bitL q % 2 ^ x.bits.toNat : Nat) : Int)) q p
theorem env_mod : ∀ (q : List Qu) (e : List Int) (i p : Nat), envE e q (i * 2 ^ bitL q + p) = envE e q p := by
  intro q
  induction q with
  | nil => intro e i p; rfl
  | cons x q ih =>
    intro e i p
    have e1 : i * 2 ^ bitL (x :: q) + p = i * 2 ^ x.bits.toNat * 2 ^ bitL q + p := by
      show i * 2 ^ (x.bits.toNat + bitL q) + p = _
      rw [Nat.pow_add, Nat.mul_assoc]
    rw [e1]
    unfold envE
    rw [ih]
    congr 2
    have e2 : (i * 2 ^ x.bits.toNat * 2 ^ bitL q + p) / 2 ^ bitL q = i * 2 ^ x.bits.toNat + p / 2 ^ bitL q := by
      rw [Nat.add_comm, Nat.add_mul_div_right _ _ (Nat.two_pow_pos _), Nat.add_comm]
    rw [e2, Nat.add_comm, Nat.add_mul_mod_self_right]
theorem dc_HF (P : List Int → Bool) : ∀ (q : List Qu) (e : List Int), dc (rowL q) (fun p => P (envE e q p)) = true ↔ HF q (fun e => P e = true) e := by
  intro q
  induction q with
  | nil => intro e; exact Iff.rfl
  | cons x q ih =>
    intro e
    show dc (List.replicate x.bits.toNat x.all ++ rowL q) _ = true ↔ _
    rw [dc_rep, rowL_len]
    have hstep : ∀ i, i < 2 ^ x.bits.toNat → dc (rowL q) (fun p => P (envE e (x :: q) (i * 2 ^ bitL q + p))) = dc (rowL q) (fun p => P (envE (e.set x.vr.toNat (i : Int)) q p)) := fun i hi => dc_ext _ fun p hp => by
      rw [rowL_len] at hp
      have e1 : (i * 2 ^ bitL q + p) / 2 ^ bitL q % 2 ^ x.bits.toNat = i := by
        rw [Nat.add_comm, Nat.add_mul_div_right _ _ (Nat.two_pow_pos _), Nat.div_eq_of_lt hp, Nat.zero_add, Nat.mod_eq_of_lt hi]
      show P (envE (e.set x.vr.toNat (((i * 2 ^ bitL q + p) / 2 ^ bitL q % 2 ^ x.bits.toNat : Nat) : Int)) q (i * 2 ^ bitL q + p)) = _
      rw [e1, env_mod]
    unfold HF
    split
    · exact ⟨fun h i hi => (ih _).1 ((hstep i hi).symm.trans (h i hi)), fun h i hi => (hstep i hi).trans ((ih _).2 (h i hi))⟩
    · exact ⟨fun ⟨i, hi, h⟩ => ⟨i, hi, (ih _).1 ((hstep i hi).symm.trans h)⟩, fun ⟨i, hi, h⟩ => ⟨i, hi, (hstep i hi).trans ((ih _).2 h)⟩⟩
theorem env_set : ∀ (q : List Qu) (e : List Int) (v : Nat) (a : Int) (p : Nat), (∀ x ∈ q, x.vr.toNat ≠ v) → envE (e.set v a) q p = (envE e q p).set v a := by
  intro q
  induction q with
  | nil => intro e v a p _; rfl
  | cons x q ih =>
    intro e v a p h
    unfold envE
    rw [List.set_comm _ _ (fun e => h x (by simp) e.symm), ih _ v a p (fun y hy => h y (by simp [hy]))]
theorem env_L : ∀ (q : List Qu) (p : Nat), q.Pairwise (fun x y => x.vr.toNat ≠ y.vr.toNat) → envE (List.replicate 8 0) q p = envL q p := by
  intro q
  induction q with
  | nil => intro p _; rfl
  | cons x q ih =>
    intro p h
    obtain ⟨h1, h2⟩ := List.pairwise_cons.1 h
    unfold envE envL
    rw [env_set q _ _ _ p (fun y hy => (h1 y hy).symm), ih p h2]
theorem pair_of {q : List Qu} (h : Ap q) : q.Pairwise (fun x y => x.vr.toNat ≠ y.vr.toNat) := by
  rw [List.pairwise_iff_getElem]
  intro i j hi hj hij
  rw [qth_get hi, qth_get hj]
  exact h i j hij hj
theorem verdict {q : List Qu} {l : List Nd} {ws : List Int} (h : Fo q l ws) : dc (rowL q) (atL q l) = true ↔ HF q (fun e => vT (root l) e = 1) (List.replicate 8 0) := by
  have h1 := dc_HF (fun e => decide (vT (root l) e = 1)) q (List.replicate 8 0)
  have e : dc (rowL q) (atL q l) = dc (rowL q) (fun p => decide (vT (root l) (envE (List.replicate 8 0) q p) = 1)) := dc_ext _ fun p _ => by
    rw [env_L q p (pair_of h.ap)]
    rfl
  rw [e, h1]
  simp only [decide_eq_true_eq]

end Go.Proofs.Ytiojfommmmggoaa.Dh0
