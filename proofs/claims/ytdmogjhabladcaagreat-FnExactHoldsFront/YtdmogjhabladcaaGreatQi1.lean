/- Lists of the program's quantifiers: read, appended to; made of a list of Quants. -/
import Derived.Deep.AppendLies
import Derived.OwnWalk
import Derived.Test.YtdmogjhabladcaaGreatQi0
import Derived.Test.YtdmogjhabladcaaGreatFm1
namespace Go.Proofs.YtdmogjhabladcaaGreat.Qi1
open Go.RowKit
open Nd0 Qa0 Qi0 Fr0
open Fm1 (quAt below_drewN)
set_option linter.unusedVariables false

theorem infoQv : (Tryz.prog.info? 86).map (fun i => (i.zero, i.size, i.bytes)) = some (some .nilIface, 1, 16) := by kernel_rfl
/-- A slice of quantifiers can be read at address a. -/
def Qvs (w : World) (a : Option Addr) (l : List Qu) : Prop :=
  l.length ≤ maxLen ∧ (l.length = 0 ∨ ∃ b o, a = some ⟨b, o, none⟩ ∧ ∀ i (h : i < l.length), w.cell? ⟨b, o + i, none⟩ = some (qv l[i]))
theorem Qvs.below {w w' : World} {a : Option Addr} {l : List Qu} (h : Qvs w a l) (k : Below w.heap.size w w') : Qvs w' a l := by
  refine ⟨h.1, ?_⟩
  rcases h.2 with h0 | ⟨b, o, rfl, hc⟩
  · exact .inl h0
  · exact .inr ⟨b, o, rfl, fun i hi => by rw [k.cell (lt_of_cell (hc i hi))]; exact hc i hi⟩
theorem Qvs.kept {w w' : World} {a : Option Addr} {l : List Qu} (h : Qvs w a l) {S : Nat → Prop} (k : Kept S w w') (hs : ∀ x, a = some x → ¬ S x.block) : Qvs w' a l := by
  refine ⟨h.1, ?_⟩
  rcases h.2 with h0 | ⟨b, o, rfl, hc⟩
  · exact .inl h0
  · exact .inr ⟨b, o, rfl, fun i hi => by rw [k.cell (lt_of_cell (hc i hi)) (hs ⟨b, o, none⟩ rfl)]; exact hc i hi⟩
/-- The slice v, in a block from B on, is the quantifiers l and may be appended to. -/
def Owi (w : World) (B : Nat) (v : Value) (l : List Qu) : Prop := w.ownsRow B 86 1 v l.length (l.map qv)
theorem Owi.form {w : World} {B : Nat} {v : Value} {l : List Qu} (h : Owi w B v l) : ∃ a c, v = .slice a l.length c ∧ Qvs w a l ∧ l.length ≤ c ∧ ∀ x, 0 < l.length → a = some x → B ≤ x.block ∧ x.block < w.heap.size := by
  have hlt := World.ownsRow.lt h
  obtain ⟨h1, h2⟩ := h
  rcases h2 with ⟨rfl, h0⟩ | ⟨g, cap, cur, rfl, hb, hg, hn, hm, hs, ht⟩
  · have : l = [] := List.eq_nil_of_length_eq_zero h0
    subst this
    exact ⟨none, 0, rfl, ⟨Nat.zero_le _, .inl rfl⟩, Nat.zero_le _, fun x _ hx => by cases hx⟩
  · refine ⟨_, _, rfl, ⟨by omega, .inr ⟨g, 0, rfl, fun i hi => ?_⟩⟩, by omega, fun x _ hx => by cases hx; exact hlt g rfl⟩
    rw [Nat.zero_add, cell_of_row w g i cur _ _ hg]
    have e : (cur.toList.take (l.length * 1))[i]? = some (qv l[i]) := by rw [ht]; simp [hi]
    rw [List.getElem?_take_of_lt (by omega)] at e
    simpa using e
theorem Owi.lit (w : World) (B : Nat) (hB : B ≤ w.heap.size) : Owi (w.alloc (.cells #[] 86)) B (.slice (some ⟨w.heap.size, 0, none⟩) 0 0) [] :=
  World.ownsRow_lit w #[] 0 hB (Nat.zero_le _) rfl
theorem Owi.one (w : World) (B : Nat) (x : Qu) (hB : B ≤ w.heap.size) : Owi (w.alloc (.cells #[qv x] 86)) B (.slice (some ⟨w.heap.size, 0, none⟩) 1 1) [x] :=
  World.ownsRow_lit w #[qv x] 1 hB (by unfold maxLen; omega) rfl
theorem Owi.lt {w : World} {B : Nat} {v : Value} {l : List Qu} (h : Owi w B v l) : ∀ k, v.ownBlock = some k → B ≤ k ∧ k < w.heap.size := World.ownsRow.lt h
theorem Owi.kept {w w' : World} {B : Nat} {v : Value} {l : List Qu} (h : Owi w B v l) {S : Nat → Prop} (k : Kept S w w') (hs : ∀ i, v.ownBlock = some i → ¬ S i) : Owi w' B v l := by
  refine ⟨h.1, ?_⟩
  rcases h.2 with hn | ⟨g, cap, cur, rfl, hb, hgg, rest⟩
  · exact .inl hn
  · refine .inr ⟨g, cap, cur, rfl, hb, ?_, rest⟩
    rw [k.block g (Array.getElem?_eq_some_iff.1 hgg).1 (hs g rfl)]
    exact hgg
/-- Some quantifiers more. -/
theorem app_qvs {ops : Array Oper} {rest : List Oper} {o : Oper} {a : Act} {Q : Exit → Act → World → Prop} (W : World) (hgd : o.guard = none) (s x : Operand)
    (ho : o.op = .call { callee := .builtin .append, args := #[s, x], argTypes := #[83, 83] })
    (B : Nat) (v : Value) (l ys : List Qu) (gx ox c : Nat) (hs : a.eval s = v) (hx : a.eval x = .slice (some ⟨gx, ox, none⟩) ys.length c)
    (hy : ∀ i (h : i < ys.length), W.cell? ⟨gx, ox + i, none⟩ = some (qv ys[i])) (hp : 0 < ys.length)
    (hown : Owi W B v l) (hB : B ≤ W.heap.size) (hlen : l.length + ys.length ≤ 1048577)
    (h : ∀ g cap w', Owi w' B (.slice (some ⟨g, 0, none⟩) (l.length + ys.length) cap) (l ++ ys) → Kept (fun k => v.ownBlock = some k) W w' → (v.ownBlock = some g ∨ W.heap.size ≤ g) → wpList Tryz.prog ops Q rest (a.put o.dst (.slice (some ⟨g, 0, none⟩) (l.length + ys.length) cap)) w') :
    wpList Tryz.prog ops Q (o :: rest) a W := by
  obtain ⟨i, hi, hzz⟩ := Option.map_eq_some_iff.1 infoQv
  simp only [Prod.mk.injEq] at hzz
  obtain ⟨hz, hsz, hb⟩ := hzz
  refine wpList_append_lies W hgd s x 83 ho B 86 i _ 1 16 Tryz.underlying83 hi hz hsz hb rfl (by omega) v l.length (l.map qv) hs hown
    ⟨gx, ox, none⟩ ys.length c (ys.map qv) hx (by simp) (fun j u hu => ?_) ?_ hp (by unfold maxLen; omega) (by omega) hB _ rfl ?_
  · have hj : j < ys.length := by have := (List.getElem?_eq_some_iff.1 hu).1; simpa using this
    have hadd : (⟨gx, ox, none⟩ : Addr).add j = ⟨gx, ox + j, none⟩ := by unfold Addr.add; split <;> simp_all
    rw [hadd, hy j hj, ← hu]
    simp [hj]
  · intro u hu
    obtain ⟨n, _, rfl⟩ := List.mem_map.1 hu
    rfl
  · intro g cap w' h1 h2 h3 h4
    refine h g cap w' ?_ ?_ ?_
    · unfold Owi
      rw [List.map_append, List.length_append]
      exact h1
    · exact ⟨h2.os, h2.tape, h2.output, h2.size, fun k hk hn => h2.block k hk (fun e => hn e.symm)⟩
    · rcases h3 with h3 | h3
      · exact .inl h3
      · exact .inr (by rw [h3]; exact Nat.le_refl _)
/-- One more, out of a literal. -/
theorem app_qv {ops : Array Oper} {rest : List Oper} {o : Oper} {a : Act} {Q : Exit → Act → World → Prop} (W : World) (hgd : o.guard = none) (s x : Operand)
    (ho : o.op = .call { callee := .builtin .append, args := #[s, x], argTypes := #[83, 83] })
    (B : Nat) (v : Value) (l : List Qu) (y : Qu) (yv : Value) (hs : a.eval s = v) (G : Nat) (hx : a.eval x = .slice (some ⟨G, 0, none⟩) 1 1) (hG : G = W.heap.size)
    (hown : Owi W B v l) (hB : B ≤ W.heap.size) (hlen : l.length ≤ 1048576) (hyv : yv = qv y)
    (h : ∀ g cap w', Owi w' B (.slice (some ⟨g, 0, none⟩) (l.length + 1) cap) (l ++ [y]) → Kept (fun k => v.ownBlock = some k) W w' → (v.ownBlock = some g ∨ W.heap.size ≤ g) → wpList Tryz.prog ops Q rest (a.put o.dst (.slice (some ⟨g, 0, none⟩) (l.length + 1) cap)) w') :
    wpList Tryz.prog ops Q (o :: rest) a (W.alloc (.cells #[yv] 86)) := by
  subst hG hyv
  have k1 : Kept (fun k => v.ownBlock = some k) W (W.alloc (.cells #[qv y] 86)) := (Kept.refl _ W).alloc _
  refine app_qvs (W.alloc (.cells #[qv y] 86)) hgd s x ho B v l [y] W.heap.size 0 1 hs hx (fun i hi => ?_) (by simp) (World.ownsRow.alloc hown _) (by simp; omega) (by simp; omega) (fun g cap w' h1 h2 h3 => ?_)
  · have : i = 0 := by simpa using hi
    subst this
    rw [World.cell?_alloc_new]; rfl
  · refine h g cap w' h1 (k1.trans h2) ?_
    rcases h3 with h3 | h3
    · exact .inl h3
    · exact .inr (by simp at h3; omega)

set_option maxRecDepth 100000 in
set_option maxHeartbeats 2000000 in
theorem iQuantsC (w : World) (a : Option Addr) (q : List Qu) (c : Nat) (hN : Qus w a q) (hl : q.length ≤ 1048576) :
    Calls Tryz.prog 67 #[.slice a q.length c] w fun e w' => (∃ a' c', e = .returned (.slice a' q.length c') ∧ Qvs w' a' q ∧ q.length ≤ c' ∧ ∀ x, 0 < q.length → a' = some x → w.heap.size ≤ x.block) ∧ Below w.heap.size w w' := by
  have HN : Hid (Qus w a q) := hN
  clear hN
  have HAL : Hid (Below w.heap.size w (w.alloc (.cells #[] 86))) := (Below.refl _ _).alloc (Nat.le_refl _) _
  have HO0 : Hid (Owi (w.alloc (.cells #[] 86)) w.heap.size (.slice (some ⟨w.heap.size, 0, none⟩) 0 0) []) := Owi.lit w _ (Nat.le_refl _)
  go_enter Tryz.func67, Tryz.ntmps67
  go_wp2
  go_loopw [3, 9] (fun v i wr => ∃ k : Nat, k ≤ q.length ∧ i = .int .i64 k ∧ Owi wr w.heap.size v (q.take k) ∧ Below w.heap.size w wr) (fun _ i _ => q.length - (intOf i).toNat)
  case atStart => exact ⟨0, Nat.zero_le _, rfl, by rw [List.take_zero]; exact HO0.out, HAL.out⟩
  case round =>
    obtain ⟨k, hk, rfl, ho, hb⟩ := hrel
    have HO : Hid (Owi wr w.heap.size u3 (q.take k)) := ho
    have HB : Hid (Below w.heap.size w wr) := hb
    have hbs : w.heap.size ≤ wr.heap.size := hb.size
    have HTL : Hid ((q.take k).length = k) := by show _ = _; rw [List.length_take]; omega
    clear ho hb
    by_cases hlt : k < q.length
    · have hlz : (k : Int) < (q.length : Int) := by omega
      obtain ⟨b, o, rfl, hc⟩ := quAt (HN.out.below HB.out) hlt
      obtain ⟨p0, p1, p2⟩ := hc k hlt
      clear hc
      have HT : Hid (q.take (k + 1) = q.take k ++ [qth q k]) := by
        show _ = _
        rw [List.take_succ_eq_append_getElem hlt, qth_get hlt]
      obtain ⟨x, hx⟩ : ∃ x, x = qth q k := ⟨_, rfl⟩
      rw [← hx] at p0 p1 p2 HT
      clear hx
      obtain ⟨al, vr, bt⟩ := x
      simp only at p0 p1 p2
      generalize q.take k = L at HO HTL HT
      obtain ⟨wx, hwx⟩ : ∃ wx : World, wx = wr.alloc (.cells #[.bool al, .int .i64 vr, .int .i64 bt] 51) := ⟨_, rfl⟩
      have hbx : Below wr.heap.size wr wx := by rw [hwx]; exact (Below.refl _ _).alloc (Nat.le_refl _) _
      have HBX : Hid (Below w.heap.size w wx) := HB.out.trans (hbx.mono hbs)
      have HOX : Hid (Owi wx w.heap.size u3 L) := HO.out.kept (S := fun _ => False) (Kept.ofBelow hbx) (fun _ _ h => h)
      have hbs2 : w.heap.size ≤ wx.heap.size := HBX.out.size
      clear hbx
      go_wp2_with fail
      rw [← hwx]
      clear hwx
      refine (iNewQ _ _ _ _).mono ?_
      rintro e w1 ⟨rfl, hw⟩
      have hw' := hw.symm
      clear hw
      subst hw'
      cases al
      · rw [qv_some]
        go_wp2_with (at_builtin; go_must (refine app_qv _ rfl _ _ rfl w.heap.size u3 L ⟨false, vr, bt⟩ (.iface 153 (.agg #[.int .i64 vr, .int .i64 bt])) rfl _ rfl rfl HOX.out hbs2 (by rw [HTL.out]; omega) rfl ?_; intro g5 cp5 w5 ho5 hk5 hg5; have HO5 : Hid (Owi w5 w.heap.size (.slice (some ⟨g5, 0, none⟩) (L.length + 1) cp5) (L ++ [⟨false, vr, bt⟩])) := ho5; have HB5 : Hid (Below w.heap.size w w5) := HBX.out.trans (hk5.below (fun b hb => (HOX.out.lt b hb).1) hbs2); clear ho5 hk5 hg5))
        go_roundw
        case rel => exact ⟨k + 1, by omega, by go_num, by rw [HT.out]; exact HO5.out, HB5.out⟩
        case measure => simp [intOf]; omega
      · rw [qv_all]
        go_wp2_with (at_builtin; go_must (refine app_qv _ rfl _ _ rfl w.heap.size u3 L ⟨true, vr, bt⟩ (.iface 152 (.agg #[.int .i64 vr, .int .i64 bt])) rfl _ rfl rfl HOX.out hbs2 (by rw [HTL.out]; omega) rfl ?_; intro g5 cp5 w5 ho5 hk5 hg5; have HO5 : Hid (Owi w5 w.heap.size (.slice (some ⟨g5, 0, none⟩) (L.length + 1) cp5) (L ++ [⟨true, vr, bt⟩])) := ho5; have HB5 : Hid (Below w.heap.size w w5) := HBX.out.trans (hk5.below (fun b hb => (HOX.out.lt b hb).1) hbs2); clear ho5 hk5 hg5))
        go_roundw
        case rel => exact ⟨k + 1, by omega, by go_num, by rw [HT.out]; exact HO5.out, HB5.out⟩
        case measure => simp [intOf]; omega
    · have HE : Hid (q.take k = q) := by show _ = _; rw [List.take_of_length_le (by omega)]
      obtain ⟨av, cv, hv, hq, hcap, hlt9⟩ := HO.out.form
      rw [HE.out] at hv hq hlt9 hcap
      subst hv
      have HI : Hid (Qvs wr av q ∧ q.length ≤ cv ∧ ∀ x, 0 < q.length → av = some x → w.heap.size ≤ x.block) := ⟨hq, hcap, fun x h1 h2 => (hlt9 x h1 h2).1⟩
      clear hq hlt9 hcap HO HE
      go_wp2
      go_ret
      exact ⟨⟨_, _, rfl, HI.out⟩, HB.out⟩
theorem iQuantsOf (w : World) (a : Option Addr) (q : List Qu) (c : Nat) (hN : Qus w a q) (hl : q.length ≤ 1048576) :
    Calls Tryz.prog 67 #[.slice a q.length c] w fun e w' => (∃ a' c', e = .returned (.slice a' q.length c') ∧ Qvs w' a' q ∧ ∀ x, 0 < q.length → a' = some x → w.heap.size ≤ x.block) ∧ Below w.heap.size w w' :=
  (iQuantsC w a q c hN hl).mono (fun e w' h => ⟨by obtain ⟨⟨a', c', h1, h2, _, h3⟩, _⟩ := h; exact ⟨a', c', h1, h2, h3⟩, h.2⟩)

end Go.Proofs.YtdmogjhabladcaaGreat.Qi1
