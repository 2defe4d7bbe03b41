/- The walk of the law FnFree, out of contracts of the program's TermOk, Free and Parts. -/
import Derived.Test.YtlicobjkjikjoaaDw8
import Derived.Test.YtlicobjkjikjoaaPkD
import Derived.Test.YtlicobjkjikjoaaPkA
import Derived.Test.YtlicobjkjikjoaaLx1
import Derived.Test.YtlicobjkjikjoaaLx3
import Derived.Test.YtlicobjkjikjoaaPg2
namespace Go.Proofs.Ytlicobjkjikjoaa.Lf1
open Go.RowKit
open Nd0 Nd3 Ap0 Ap2 Tm0 Tm4 Tm12 Dw0 Dw3 Dw5 Dw8 Pg2 Lw4
open Dr0 (Cur Only Bytes Off)
open Lx1 (ITermOk)
open Lx3 (IFree)
open Sp4 (sTermOk)
open Sp9 (sFree)
open Ws1 (ret_int ret_bool)
set_option linter.unusedVariables false

theorem below_drewN {B : Nat} {u w : World} (h : Below B u w) (n : Nat) : Below B u (w.drewN n) := ⟨h.os, h.tape, h.output, h.size, h.block⟩

set_option maxHeartbeats 1000000 in
theorem sameInts (w : World) (a a' : Option Addr) (l : List Int) (c c' : Nat) (h : Ints w a l) (h' : Ints w a' l) :
    Calls Try.prog 14 #[.slice a l.length c, .slice a' l.length c'] w fun e w' => e = .returned (.bool true) ∧ ∃ m, w' = w.drewN m := by
  have H : Hid (Ints w a l) := h
  have H' : Hid (Ints w a' l) := h'
  have hm := h.1
  unfold maxLen at hm
  clear h h'
  go_enter Try.func14, Try.ntmps14
  go_wp2
  go_loopw [5] (fun i wr => ∃ k : Nat, k ≤ l.length ∧ i = .int .i64 k ∧ ∃ m, wr = w.drewN m) (fun i _ => l.length - (intOf i).toNat)
  case atStart => exact ⟨0, Nat.zero_le _, rfl, 0, rfl⟩
  case round =>
    obtain ⟨k, hk, rfl, m, rfl⟩ := hrel
    by_cases hlt : k < l.length
    · have hlz : (k : Int) < (l.length : Int) := by omega
      rcases H.out.2 with h0 | ⟨xb, xo, rfl, hc⟩
      · omega
      rcases H'.out.2 with h0 | ⟨yb, yo, rfl, hc'⟩
      · omega
      have p0 := hc k hlt
      have q0 := hc' k hlt
      clear hc hc'
      generalize l[k] = x at p0 q0
      go_wp2
      go_quiet (fail)
      go_wp2
      go_roundw
      case rel => exact ⟨k + 1, by omega, by go_num, _, rfl⟩
      case measure => simp [intOf]; omega
    · go_wp2
      go_ret
      exact ⟨rfl, _, rfl⟩

/-- Some nodes more. -/
theorem app_nodes {ops : Array Oper} {rest : List Oper} {o : Oper} {a : Act} {Q : Exit → Act → World → Prop} (W : World) (hgd : o.guard = none) (s x : Operand)
    (ho : o.op = .call { callee := .builtin .append, args := #[s, x], argTypes := #[24, 24] })
    (B : Nat) (v : Value) (l ys : List Nd) (gx ox c : Nat) (hs : a.eval s = v) (hx : a.eval x = .slice (some ⟨gx, ox, none⟩) ys.length c)
    (hy : ∀ i (h : i < ys.length), NodeAt W gx (ox + i * 6) ys[i]) (hp : 0 < ys.length)
    (hown : Own W B v l) (hB : B ≤ W.heap.size) (hlen : l.length + ys.length ≤ 1048577)
    (h : ∀ g cap w', Own w' B (.slice (some ⟨g, 0, none⟩) (l.length + ys.length) cap) (l ++ ys) → Kept (fun k => v.ownBlock = some k) W w' → (v.ownBlock = some g ∨ W.heap.size ≤ g) → wpList Try.prog ops Q rest (a.put o.dst (.slice (some ⟨g, 0, none⟩) (l.length + ys.length) cap)) w') :
    wpList Try.prog ops Q (o :: rest) a W := by
  obtain ⟨i, hi, hzz⟩ := Option.map_eq_some_iff.1 infoNode
  simp only [Prod.mk.injEq] at hzz
  obtain ⟨hz, hsz, hb⟩ := hzz
  refine wpList_append_lies W hgd s x 24 ho B 31 i _ 6 48 Try.underlying24 hi hz hsz hb rfl (by omega) v l.length (flat l) hs hown
    ⟨gx, ox, none⟩ ys.length c (flat ys) hx (flat_length ys) (fun j u hu => nodes_cells hy j u hu) ?_ hp (by unfold maxLen; omega) (by omega) hB _ rfl ?_
  · intro u hu
    obtain ⟨n, _, hn⟩ := List.mem_flatMap.1 hu
    simp [Nd.cells] at hn
    rcases hn with rfl | rfl | rfl | rfl | rfl | rfl <;> rfl
  · intro g cap w' h1 h2 h3 h4
    refine h g cap w' ?_ ?_ ?_
    · unfold Own
      rw [flat_app, List.length_append]
      exact h1
    · exact ⟨h2.os, h2.tape, h2.output, h2.size, fun k hk hn => h2.block k hk (fun e => hn e.symm)⟩
    · rcases h3 with h3 | h3
      · exact .inl h3
      · exact .inr (by rw [h3]; exact Nat.le_refl _)

set_option maxRecDepth 100000 in
set_option maxHeartbeats 8000000 in
theorem lawFree (hTO : ITermOk) (hFR : IFree) (w : World) (a : Option Addr) (len cap : Nat) (hb : Bytes w a len) :
    Calls Try.prog 4 #[.slice a len cap] w fun e w' => e = .returned (.bool true) ∧ Below w.heap.size w w' := by
  have HB : Hid (Bytes w a len) := hb
  have HTO : Hid ITermOk := hTO
  have HFR : Hid IFree := hFR
  clear hb hTO hFR
  by_cases hs : 1048576 < len
  · go_enter Try.func4, Try.ntmps4
    go_wp2_with fail
    refine (lbig _ a len cap true (by simp; omega)).mono ?_
    rintro e w' ⟨rfl, rfl⟩
    go_wp2
    go_ret
    exact ⟨rfl, Below.refl _ _⟩
  have hsl : len ≤ 1048576 := by omega
  go_enter Try.func4, Try.ntmps4
  go_wp2_with fail
  refine (lbig _ a len cap false (by simp; omega)).mono ?_
  rintro e w0 ⟨rfl, rfl⟩
  go_wp2_with fail
  refine (drawValue _ a len cap HB.out).mono ?_
  rintro e w1 ⟨g, c, L, ve, rfl, hn, hb1, hl1, hl2, hcL⟩
  have HCL : Hid (L.length ≤ c) := hcL
  clear hcL
  have HN1 : Hid (Nodes w1 (some ⟨g, 0, none⟩) L) := hn
  have HB1 : Hid (Below w0.heap.size w0 w1) := hb1
  clear hn hb1
  go_wp2_with fail
  refine (sTermOk _ _ L c HN1.out).mono ?_
  rintro e w2 ⟨rfl, hb2⟩
  have HN2 : Hid (Nodes w2 (some ⟨g, 0, none⟩) L) := HN1.out.below hb2
  have HB2 : Hid (Below w0.heap.size w0 w2) := HB1.out.trans (hb2.mono HB1.out.size)
  clear hb2 HN1 HB1
  rcases HN2.out.2 with h0 | ⟨b', o', he, hcn⟩
  · omega
  cases he
  have p1 := (hcn (L.length - 1) (by omega)).c1
  rw [nth_get (by omega : L.length - 1 < L.length), Nat.zero_add] at p1
  clear hcn
  have g1 : (0 : Int) ≤ (L.length : Int) - 1 := by omega
  have g2 : (L.length : Int) - 1 < (L.length : Int) := by omega
  obtain ⟨rw9, hrw9⟩ : ∃ z : Int, z = (nth L (L.length - 1)).w := ⟨_, rfl⟩
  rw [← hrw9] at p1
  have HRW : Hid (rw9 = (nth L (L.length - 1)).w) := hrw9
  clear hrw9
  cases hT : termOk L
  ·
    go_wp2_with fail
    refine (HFR.out _ _ L c HN2.out HCL.out (by omega)).mono ?_
    rintro e w3 ⟨⟨a3, c3, rfl, hi3⟩, hb3⟩
    have HN3 : Hid (Nodes w3 (some ⟨g, 0, none⟩) L) := HN2.out.below hb3
    have HB3 : Hid (Below w0.heap.size w0 w3) := HB2.out.trans (hb3.mono HB2.out.size)
    clear hi3 hb3
    go_wp2_with fail
    refine (sFree _ _ L c HN3.out).mono ?_
    rintro e w4 ⟨⟨v4, rfl, ho4⟩, hb4⟩
    obtain ⟨a4, c4, rfl, hi4⟩ := ho4.form
    have HB4 : Hid (Below w0.heap.size w0 w4) := HB3.out.trans (hb4.mono HB3.out.size)
    clear ho4 hi4 hb4
    go_wp2
    go_ret
    exact ⟨ret_bool (by simp), HB4.out⟩
  · cases hw : (rw9 != 1)
    · by_cases h80 : 80 ≤ L.length
      · have h81 : (80 : Int) ≤ (L.length : Int) := by omega
        go_wp2_with fail
        refine (HFR.out _ _ L c HN2.out HCL.out (by omega)).mono ?_
        rintro e w3 ⟨⟨a3, c3, rfl, hi3⟩, hb3⟩
        have HN3 : Hid (Nodes w3 (some ⟨g, 0, none⟩) L) := HN2.out.below hb3
        have HB3 : Hid (Below w0.heap.size w0 w3) := HB2.out.trans (hb3.mono HB2.out.size)
        clear hi3 hb3
        go_wp2_with fail
        refine (sFree _ _ L c HN3.out).mono ?_
        rintro e w4 ⟨⟨v4, rfl, ho4⟩, hb4⟩
        obtain ⟨a4, c4, rfl, hi4⟩ := ho4.form
        have HB4 : Hid (Below w0.heap.size w0 w4) := HB3.out.trans (hb4.mono HB3.out.size)
        clear ho4 hi4 hb4
        go_wp2
        go_ret
        exact ⟨ret_bool (by simp), HB4.out⟩
      · have h81 : ¬ (80 : Int) ≤ (L.length : Int) := by omega
        have HT : Hid (termOk L = true) := hT
        have HW1 : Hid ((nth L (L.length - 1)).w = 1) := by
          have : rw9 = 1 := by simpa using hw
          show _ = _
          rw [← HRW.out]; exact this
        have hL79 : L.length ≤ 79 := by omega
        have HBy : Hid (Bytes w2 a len) := HB.out.below HB2.out
        go_wp2_with fail
        refine (lat _ a len cap 3 (by omega) (by omega) HBy.out hsl).mono ?_
        rintro e w3 ⟨⟨x, rfl, hx0, hx1⟩, rfl⟩
        clear hT hw p1 HRW
        rcases HN2.out.2 with h0 | ⟨b', o', he, hcn⟩
        · omega
        cases he
        have hwal : Below w3.heap.size w3 (w3.alloc (.cells #[] 31)) := (Below.refl _ _).alloc (Nat.le_refl _) _
        have HHY : Hid (∀ i (h : i < L.length), NodeAt (w3.alloc (.cells #[] 31)) g (0 + i * 6) L[i]) := fun i hi => (hcn i hi).below hwal (hcn i hi).lt
        clear hcn
        go_wp2_with (at_builtin; go_must (refine app_nodes _ rfl _ _ rfl w3.heap.size (.slice (some ⟨w3.heap.size, 0, none⟩) 0 0) [] L g 0 c rfl rfl HHY.out hl1 (Own.lit w3 _ (Nat.le_refl _)) (by simp) (by simp; omega) ?_; intro g4 cp4 w4 ho4 hk4 hg4))
        simp only [List.length_nil, Nat.zero_add, List.nil_append] at ho4
        have HO4 : Hid (Own w4 w3.heap.size (.slice (some ⟨g4, 0, none⟩) L.length cp4) L) := ho4
        have HB4' : Hid (Below w3.heap.size w3 w4) := hwal.trans (hk4.below (fun k hk => by cases hk; exact Nat.le_refl _) (by simp))
        have HB4 : Hid (Below w0.heap.size w0 w4) := HB2.out.trans (HB4'.out.mono HB2.out.size)
        have HN4 : Hid (Nodes w4 (some ⟨g, 0, none⟩) L) := HN2.out.below HB4'.out
        have HBy4 : Hid (Bytes w4 a len) := HBy.out.below HB4'.out
        have hs4 : w3.heap.size ≤ w4.heap.size := HB4'.out.size
        clear ho4 hk4 hg4 hwal HHY
        refine (lat _ a len cap 4 (by omega) (by omega) HBy4.out hsl).mono ?_
        rintro e w5 ⟨⟨y, rfl, hy0, hy1⟩, rfl⟩
        go_wp2_with fail
        refine (lat _ a len cap 5 (by omega) (by omega) HBy4.out hsl).mono ?_
        rintro e w6 ⟨⟨z, rfl, hz0, hz1⟩, rfl⟩
        have hkv0 : 0 ≤ x % 8 := by omega
        have hkv1 : x % 8 ≤ 7 := by omega
        have hop0 : 0 ≤ y % 2 := by omega
        have hop1 : y % 2 ≤ 1 := by omega
        have hbb0 : 0 ≤ z % 8 := by omega
        have hbb1 : z % 8 ≤ 7 := by omega
        have HQ : Hid (termOk (L ++ [⟨19 + y % 2, 1, x % 8, (L.length : Int) - 1, 1 + z % 8, 0⟩]) = true ∧ freeL (L ++ [⟨19 + y % 2, 1, x % 8, (L.length : Int) - 1, 1 + z % 8, 0⟩]) = (freeL L).filter (fun t => t != x % 8)) :=
          ⟨termOk_quant HT.out HW1.out (by omega) (by omega) ⟨hkv0, hkv1⟩ ⟨by omega, by omega⟩, free_quant HT.out HW1.out (by omega) (by omega) ⟨hkv0, hkv1⟩ ⟨by omega, by omega⟩⟩
        have HPQ : Hid ((parts (⟨19 + y % 2, 1, x % 8, (L.length : Int) - 1, 1 + z % 8, 0⟩ : Nd)).length = 1) := by
          show _ = _
          rw [parts_one (by simp only; omega)]; rfl
        go_wp2_with (at_builtin; go_must (refine app_node w6 rfl _ _ rfl w3.heap.size (.slice (some ⟨g4, 0, none⟩) L.length cp4) L ⟨19 + y % 2, 1, x % 8, (L.length : Int) - 1, 1 + z % 8, 0⟩ rfl w6.heap.size rfl rfl HO4.out hs4 (by omega) ?_; intro g7 cp7 w7 ho7 hk7 hg7))
        obtain ⟨nq, hnq⟩ : ∃ nq : Nd, nq = ⟨19 + y % 2, 1, x % 8, (L.length : Int) - 1, 1 + z % 8, 0⟩ := ⟨_, rfl⟩
        rw [← hnq] at ho7 HQ HPQ
        clear hnq
        have hB37 : Below w3.heap.size w3 w7 := HB4'.out.trans (hk7.below (fun k hk => (HO4.out.lt k hk).1) hs4)
        have HB7 : Hid (Below w0.heap.size w0 w7) := HB2.out.trans (hB37.mono HB2.out.size)
        have HN7 : Hid (Nodes w7 (some ⟨g, 0, none⟩) L) := HN2.out.below hB37
        have e1 : (L ++ [nq]).length = L.length + 1 := by simp
        have HUN : Hid (Nodes w7 (some ⟨g7, 0, none⟩) (L ++ [nq])) := by
          obtain ⟨a9, c9, hv9, hw9⟩ := ho7.form
          have ha9 : a9 = some ⟨g7, 0, none⟩ := by injection hv9 with h1 h2 h3; exact h1.symm
          rw [ha9] at hw9
          exact hw9.nodes
        have HCU : Hid ((L ++ [nq]).length ≤ cp7) := Dw6.own_cap ho7
        have HE1 : Hid ((L ++ [nq]).length = L.length + 1) := e1
        have HLAST : Hid (∃ h : L.length < (L ++ [nq]).length, (L ++ [nq])[L.length] = nq) := ⟨by rw [e1]; omega, by simp⟩
        clear ho7 hk7 hg7 HO4 HB4' HB4 HN4 HBy4 hB37 e1
        generalize x % 8 = kv at HQ hkv0 hkv1 ⊢
        generalize hU : L ++ [nq] = U at HQ HUN HCU HE1 HLAST
        clear hU
        go_wp2_with fail
        have hal : Below w7.heap.size w7 (w7.alloc (.cells #[] 3)) := (Below.refl _ _).alloc (Nat.le_refl _) _
        refine (HFR.out _ _ L c (HN7.out.below hal) HCL.out (by omega)).mono ?_
        rintro e w8 ⟨⟨a8, c8, rfl, hi8⟩, hb8⟩
        have HF8 : Hid (IntsIn w8 (w7.heap.size + 1) w8.heap.size a8 (freeL L)) := by
          have h9 := hi8.within
          simp at h9
          exact h9
        have HB78 : Hid (Below w7.heap.size w7 w8) := hal.trans (hb8.mono (by simp))
        have HW8 : Hid (Ows w8 w7.heap.size (.slice (some ⟨w7.heap.size, 0, none⟩) 0 0) []) := (Ows.lit w7 _ (Nat.le_refl _)).kept (S := fun _ => False) (Kept.ofBelow hb8) (fun _ _ h => h)
        have hfl : (freeL L).length ≤ 8 := by
          unfold freeL; split
          · exact freeTo_length L 8
          · simp
        clear hi8 hb8 hal
        go_wp2_with fail
        go_loopw [7, 67] (fun v q wr => ∃ k : Nat, k ≤ (freeL L).length ∧ q = .int .i64 k ∧ Ows wr w7.heap.size v (((freeL L).take k).filter (fun t => t != kv)) ∧ IntsIn wr (w7.heap.size + 1) w8.heap.size a8 (freeL L) ∧ Below w7.heap.size w7 wr ∧ w8.heap.size ≤ wr.heap.size ∧ ∀ b, v.ownBlock = some b → b = w7.heap.size ∨ w8.heap.size ≤ b) (fun _ q _ => (freeL L).length - (intOf q).toNat)
        case atStart => exact ⟨0, Nat.zero_le _, rfl, HW8.out, HF8.out, HB78.out, Nat.le_refl _, fun b hb => by cases hb; exact .inl rfl⟩
        case round =>
          clear HW8 HF8 HB78
          obtain ⟨k, hk, rfl, ho, hf, hb, hz, hv⟩ := hrel
          have HF : Hid (IntsIn wr (w7.heap.size + 1) w8.heap.size a8 (freeL L)) := hf
          have HBR : Hid (Below w7.heap.size w7 wr) := hb
          have HVB : Hid (∀ b, u7.ownBlock = some b → b = w7.heap.size ∨ w8.heap.size ≤ b) := hv
          have HO : Hid (Ows wr w7.heap.size u7 (((freeL L).take k).filter (fun t => t != kv))) := ho
          have hBs : w7.heap.size ≤ wr.heap.size := hb.size
          have hfk : (((freeL L).take k).filter (fun t => t != kv)).length ≤ 8 := Nat.le_trans (List.length_filter_le _ _) (by rw [List.length_take]; omega)
          clear hf hb hv
          by_cases hlt : k < (freeL L).length
          · clear ho
            have hkz : (k : Int) < ((freeL L).length : Int) := by omega
            rcases HF.out.2 with h0 | ⟨fb, fo, rfl, hfB, hfU, hfc⟩
            · omega
            have q0 := (hfc k hlt).1
            have HTK : Hid (((freeL L).take (k + 1)).filter (fun t => t != kv) = ((freeL L).take k).filter (fun t => t != kv) ++ [(freeL L)[k]].filter (fun t => t != kv)) := by
              show _ = _
              rw [List.take_succ_eq_append_getElem hlt, List.filter_append]
            generalize (freeL L)[k] = f at q0 HTK
            generalize hM : ((freeL L).take k).filter (fun t => t != kv) = M at HO hfk HTK
            clear hM hfc hfB hfU
            cases hne : (f != kv)
            · have HT2 : Hid (((freeL L).take (k + 1)).filter (fun t => t != kv) = M) := by
                show _ = _
                rw [HTK.out, List.filter_cons, hne]; simp
              go_wp2
              go_roundw
              case rel => exact ⟨k + 1, by omega, by go_num, by rw [HT2.out]; exact HO.out, HF.out, HBR.out, hz, HVB.out⟩
              case measure => simp [intOf]; omega
            · have HT2 : Hid (((freeL L).take (k + 1)).filter (fun t => t != kv) = M ++ [f]) := by
                show _ = _
                rw [HTK.out, List.filter_cons, hne]; simp
              go_wp2_with (at_builtin; go_must (refine app_int _ rfl _ _ rfl w7.heap.size u7 M f rfl rfl HO.out hBs (by omega) ?_; intro g' cp w9 ho9 hk9 hg9))
              have HO9 : Hid (Ows w9 w7.heap.size (.slice (some ⟨g', 0, none⟩) (M.length + 1) cp) (M ++ [f])) := ho9
              have HF9 : Hid (IntsIn w9 (w7.heap.size + 1) w8.heap.size (some ⟨fb, fo, none⟩) (freeL L)) := HF.out.kept hk9 (fun b h1 h2 e => by have := HVB.out b e; omega)
              have HB9 : Hid (Below w7.heap.size w7 w9) := HBR.out.trans (hk9.below (fun k hk => (HO.out.lt k hk).1) hBs)
              have HZ9 : Hid (w8.heap.size ≤ w9.heap.size) := Nat.le_trans hz hk9.size
              have HV9 : Hid (∀ b, (Value.slice (some ⟨g', 0, none⟩) (M.length + 1) cp).ownBlock = some b → b = w7.heap.size ∨ w8.heap.size ≤ b) := by
                show ∀ _, _
                intro b hb
                have h1 : g' = b := Option.some.inj hb
                subst h1
                rcases hg9 with e | e
                · exact HVB.out _ e
                · exact .inr (by omega)
              clear ho9 hk9 hg9
              go_wp2
              go_roundw
              case rel => exact ⟨k + 1, by omega, by go_num, by rw [HT2.out]; exact HO9.out, HF9.out, HB9.out, HZ9.out, HV9.out⟩
              case measure => simp [intOf]; omega
          · have hkz : ¬ (k : Int) < ((freeL L).length : Int) := by omega
            have hke : (freeL L).take k = freeL L := List.take_of_length_le (by omega)
            rw [hke, ← HQ.out.2] at ho
            obtain ⟨aw, cw, rfl, hww⟩ := ho.form
            have HWI : Hid (Ints wr aw (freeL U)) := hww.ints
            have HNr : Hid (Nodes wr (some ⟨g, 0, none⟩) L) := HN7.out.below HBR.out
            have HUr : Hid (Nodes wr (some ⟨g7, 0, none⟩) U) := HUN.out.below HBR.out
            have HB9 : Hid (Below w0.heap.size w0 wr) := HB7.out.trans (HBR.out.mono HB7.out.size)
            have hul : U.length ≤ 1048576 := by have := HE1.out; omega
            rw [← HE1.out]
            clear ho hww HO hke HF HBR HVB hfk
            go_wp2_with fail
            refine (HTO.out _ _ U cp7 HUr.out HCU.out hul).mono ?_
            rintro e wa ⟨rfl, hba⟩
            rw [HQ.out.1]
            have HUa : Hid (Nodes wa (some ⟨g7, 0, none⟩) U) := HUr.out.below hba
            have HNa : Hid (Nodes wa (some ⟨g, 0, none⟩) L) := HNr.out.below hba
            have HWa : Hid (Ints wa aw (freeL U)) := HWI.out.below hba
            have HBa : Hid (Below w0.heap.size w0 wa) := HB9.out.trans (hba.mono HB9.out.size)
            clear hba HUr HNr HWI HB9
            go_wp2_with fail
            refine (HFR.out _ _ U cp7 HUa.out HCU.out hul).mono ?_
            rintro e wb ⟨⟨ab, cb, rfl, hib⟩, hbb⟩
            have HUb : Hid (Nodes wb (some ⟨g7, 0, none⟩) U) := HUa.out.below hbb
            have HNb : Hid (Nodes wb (some ⟨g, 0, none⟩) L) := HNa.out.below hbb
            have HWb : Hid (Ints wb aw (freeL U)) := HWa.out.below hbb
            have HIb : Hid (Ints wb ab (freeL U)) := hib.ints
            have HBb : Hid (Below w0.heap.size w0 wb) := HBa.out.trans (hbb.mono HBa.out.size)
            clear hib hbb HUa HNa HWa HBa
            go_wp2_with fail
            refine (sameInts _ ab aw (freeL U) cb cw HIb.out HWb.out).mono ?_
            rintro e wc ⟨rfl, mc, rfl⟩
            have hdc : Below wb.heap.size wb (wb.drewN mc) := below_drewN (Below.refl _ _) _
            have HUc : Hid (Nodes (wb.drewN mc) (some ⟨g7, 0, none⟩) U) := HUb.out.below hdc
            have HNc : Hid (Nodes (wb.drewN mc) (some ⟨g, 0, none⟩) L) := HNb.out.below hdc
            have HBc : Hid (Below w0.heap.size w0 (wb.drewN mc)) := HBb.out.trans (hdc.mono HBb.out.size)
            clear hdc HUb HNb HWb HIb HBb
            generalize wb.drewN mc = wc at HUc HNc HBc ⊢
            go_wp2_with fail
            refine (HFR.out _ _ L c HNc.out HCL.out (by omega)).mono ?_
            rintro e wd ⟨⟨ad, cd, rfl, hid⟩, hbd⟩
            have HUd : Hid (Nodes wd (some ⟨g7, 0, none⟩) U) := HUc.out.below hbd
            have HNd : Hid (Nodes wd (some ⟨g, 0, none⟩) L) := HNc.out.below hbd
            have HId : Hid (Ints wd ad (freeL L)) := hid.ints
            have HBd : Hid (Below w0.heap.size w0 wd) := HBc.out.trans (hbd.mono HBc.out.size)
            clear hid hbd HUc HNc HBc
            go_wp2_with fail
            refine (sFree _ _ L c HNd.out).mono ?_
            rintro e we ⟨⟨ve', rfl, hoe⟩, hbe⟩
            obtain ⟨ae, ce, rfl, hie⟩ := hoe.form
            have HUe : Hid (Nodes we (some ⟨g7, 0, none⟩) U) := HUd.out.below hbe
            have HIe : Hid (Ints we ad (freeL L)) := HId.out.below hbe
            have HJe : Hid (Ints we ae (freeL L)) := hie.ints
            have HBe : Hid (Below w0.heap.size w0 we) := HBd.out.trans (hbe.mono HBd.out.size)
            clear hoe hie hbe HUd HNd HId HBd
            go_wp2_with fail
            refine (sameInts _ ad ae (freeL L) cd ce HIe.out HJe.out).mono ?_
            rintro e wf ⟨rfl, mf, rfl⟩
            have hdf : Below we.heap.size we (we.drewN mf) := below_drewN (Below.refl _ _) _
            have HUf : Hid (Nodes (we.drewN mf) (some ⟨g7, 0, none⟩) U) := HUe.out.below hdf
            have HBf : Hid (Below w0.heap.size w0 (we.drewN mf)) := HBe.out.trans (hdf.mono HBe.out.size)
            clear hdf HUe HIe HJe HBe
            generalize we.drewN mf = wf at HUf HBf ⊢
            have hu1 : 1 ≤ U.length := by have := HE1.out; omega
            have k1 : (0 : Int) ≤ (U.length : Int) - 1 := by omega
            have k2 : (U.length : Int) - 1 < (U.length : Int) := by omega
            rcases HUf.out.2 with h0 | ⟨b', o', he, hcu⟩
            · omega
            cases he
            obtain ⟨p0, p1, p2, p3, p4, p5⟩ := hcu (U.length - 1) (by omega)
            have hnl : U[U.length - 1]'(by omega) = nq := by
              obtain ⟨h9, e9⟩ := HLAST.out
              have e8 : U.length - 1 = L.length := by have := HE1.out; omega
              simp only [e8]; exact e9
            rw [hnl, Nat.zero_add] at p0 p1 p2 p3 p4 p5
            clear hcu hnl
            have hp1 : (parts nq).length = 1 := HPQ.out
            go_wp2_with fail
            refine (iParts nq _).mono ?_
            rintro e wg ⟨⟨ag, cg, rfl, hig⟩, hbg⟩
            have HBg : Hid (Below w0.heap.size w0 wg) := HBf.out.trans (hbg.mono HBf.out.size)
            clear hig hbg
            go_wp2
            go_ret
            exact ⟨rfl, HBg.out⟩
    ·
      go_wp2_with fail
      refine (HFR.out _ _ L c HN2.out HCL.out (by omega)).mono ?_
      rintro e w3 ⟨⟨a3, c3, rfl, hi3⟩, hb3⟩
      have HN3 : Hid (Nodes w3 (some ⟨g, 0, none⟩) L) := HN2.out.below hb3
      have HB3 : Hid (Below w0.heap.size w0 w3) := HB2.out.trans (hb3.mono HB2.out.size)
      clear hi3 hb3
      go_wp2_with fail
      refine (sFree _ _ L c HN3.out).mono ?_
      rintro e w4 ⟨⟨v4, rfl, ho4⟩, hb4⟩
      obtain ⟨a4, c4, rfl, hi4⟩ := ho4.form
      have HB4 : Hid (Below w0.heap.size w0 w4) := HB3.out.trans (hb4.mono HB3.out.size)
      clear ho4 hi4 hb4
      go_wp2
      go_ret
      exact ⟨ret_bool (by simp), HB4.out⟩

end Go.Proofs.Ytlicobjkjikjoaa.Lf1
