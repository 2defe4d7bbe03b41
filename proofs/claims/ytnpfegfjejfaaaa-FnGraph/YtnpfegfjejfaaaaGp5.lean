/- The program's or, graph, grown, GraphAnd, GraphOr. -/
import Derived.Deep.RegionLaw
import Derived.Test.YtnpfegfjejfaaaaGp4
import Derived.Test.YtnpfegfjejfaaaaGx0
namespace Go.Proofs.Ytnpfegfjejfaaaa.Gp5
open Go.RowKit
open Nd0 Qb0 Qb2 Gr0 Gr1 Mq0 Nt0 Ap10 Gp1 Gp2 Gp3 Gp4 Gx0
set_option linter.unusedVariables false

theorem and_range {ins : Int} {l : List An} {a b : Int} (h0 : 0 ≤ ins) (h1 : ins ≤ 12) (hl : l.length ≤ 3000) (hok : okL ins l = true) : -1 ≤ (andW ins l a b).2 ∧ (andW ins l a b).2 ≤ 1000000 := by
  obtain ⟨_, h2, h3⟩ := andW_ok (a := a) (b := b) h0 hok hl
  rcases h3 with h3 | h3
  · rw [h3]; omega
  · have := of_decide_eq_true h3; omega
set_option maxHeartbeats 2000000 in
theorem iOr {w : World} {F : Nat → Prop} {p : Nat} {ins : Int} {l : List An} (h : Ne w F p ins l) (h0 : 0 ≤ ins) (h1 : ins ≤ 12) (hl : l.length ≤ 3000) (hok : okL ins l = true) (a b : Int) (ha : -9223372036854775808 ≤ a) (ha' : a ≤ 9223372036854775807) (hb : -9223372036854775808 ≤ b) (hb' : b ≤ 9223372036854775807) :
    Calls Try.prog 80 #[.pointer (some ⟨p, 0, none⟩), .int .i64 a, .int .i64 b] w (AndPost w F p ins (orW ins l a b)) := by
  have H : Hid (Ne w F p ins l) := h
  have hrg := and_range (a := turnW a) (b := turnW b) h0 h1 hl hok
  have HOR : Hid (orW ins l a b = ((andW ins l (turnW a) (turnW b)).1, if (andW ins l (turnW a) (turnW b)).2 = -1 then -1 else turnW (andW ins l (turnW a) (turnW b)).2)) := rfl
  clear h
  go_enter Try.func80, Try.ntmps80
  go_wp2_with fail
  refine (iTurned a _ ha ha').mono ?_
  rintro e w2 ⟨rfl, hw2⟩
  have hw2' := hw2.symm
  clear hw2
  subst hw2'
  go_wp2_with fail
  refine (iTurned b _ hb hb').mono ?_
  rintro e w2 ⟨rfl, hw2⟩
  have hw2' := hw2.symm
  clear hw2
  subst hw2'
  go_wp2_with fail
  refine (iAnd H.out h0 h1 hl (turnW a) (turnW b)).mono ?_
  generalize hr : andW ins l (turnW a) (turnW b) = r at hrg HOR
  clear hr
  obtain ⟨l', x⟩ := r
  rintro e w3 ⟨rfl, hne, hk⟩
  have HN : Hid (Ne w3 F p ins l') := hne
  have HK : Hid (Kept (fun k => ¬ F k) w w3) := hk
  clear hne hk
  simp only at HOR hrg
  by_cases hx : x = -1
  · subst hx
    go_wp2
    go_ret
    rw [HOR.out]
    exact ⟨rfl, HN.out, HK.out⟩
  · have hxb : (x == -1) = false := beq_eq_false_iff_ne.2 hx
    have HX : Hid (orW ins l a b = (l', turnW x)) := by show _ = _; rw [HOR.out, if_neg hx]
    clear hx
    go_wp2_with fail
    refine (iTurned x _ (by omega) (by omega)).mono ?_
    rintro e w4 ⟨rfl, hw4⟩
    have hw4' := hw4.symm
    clear hw4
    subst hw4'
    go_wp2
    go_ret
    rw [HX.out]
    exact ⟨rfl, HN.out, HK.out⟩

set_option maxHeartbeats 2000000 in
theorem iGraph {w : World} {F : Nat → Prop} {p : Nat} {ins : Int} {l : List An} {v : Value} {bm : Nat} (h : Nt w F p ins l v bm) :
    Calls Try.prog 49 #[.pointer (some ⟨p, 0, none⟩)] w fun e w' => e = .returned (.agg #[.int .i64 ins, v]) ∧ Below w.heap.size w w' := by
  obtain ⟨a, c, rfl, hA, hc⟩ := h.slice
  have c0 := h.c0
  have c1 := h.c1
  have hp := h.lt
  have hne : p ≠ w.heap.size := by omega
  clear h hA
  go_enter Try.func49, Try.ntmps49
  go_wp2
  have hb0 : Below w.heap.size w (w.alloc (.cells #[.int .i64 0, .slice none 0 0] 29)) := (Below.refl _ _).alloc (Nat.le_refl _) _
  have x0 : (w.alloc (.cells #[.int .i64 0, .slice none 0 0] 29)).cell? ⟨p, 0, none⟩ = some (.int .i64 ins) := by rw [hb0.cell hp]; exact c0
  have x1 : (w.alloc (.cells #[.int .i64 0, .slice none 0 0] 29)).cell? ⟨p, 1, none⟩ = some (.slice a l.length c) := by rw [hb0.cell hp]; exact c1
  have y0 : (w.alloc (.cells #[.int .i64 0, .slice none 0 0] 29)).cell? ⟨w.heap.size, 0, none⟩ = some (.int .i64 0) := by rw [World.cell?_alloc_new]; rfl
  have y1 : (w.alloc (.cells #[.int .i64 0, .slice none 0 0] 29)).cell? ⟨w.heap.size, 1, none⟩ = some (.slice none 0 0) := by rw [World.cell?_alloc_new]; rfl
  have HB0 : Hid (Below w.heap.size w (w.alloc (.cells #[.int .i64 0, .slice none 0 0] 29))) := hb0
  have g0 : (w.alloc (.cells #[.int .i64 0, .slice none 0 0] 29)).frozen? ⟨w.heap.size, 0, none⟩ = false := by simp
  have g1 : (w.alloc (.cells #[.int .i64 0, .slice none 0 0] 29)).frozen? ⟨w.heap.size, 1, none⟩ = false := by simp
  clear hb0 c0 c1
  generalize w.alloc (.cells #[.int .i64 0, .slice none 0 0] 29) = W at *
  have hpW : p < W.heap.size := Nat.lt_of_lt_of_le hp HB0.out.size
  have K9 : Hid (Kept (fun k => k = w.heap.size) W ((W.setCell ⟨w.heap.size, 0, none⟩ (.int .i64 ins)).setCell ⟨w.heap.size, 1, none⟩ (.slice a l.length c)).drew) := Kept.drew (Kept.setCell (S := fun k => k = w.heap.size) (Kept.setCell (S := fun k => k = w.heap.size) (Kept.refl _ W) (p := ⟨w.heap.size, 0, none⟩) rfl (.int .i64 ins)) (p := ⟨w.heap.size, 1, none⟩) rfl (.slice a l.length c))
  go_region_held3 (fun w' => w'.cell? ⟨p, 0, none⟩ = some (.int .i64 ins) ∧ w'.cell? ⟨p, 1, none⟩ = some (.slice a l.length c)) ((first | exact ⟨x0, x1⟩ | exact ⟨by rw [K9.out.cell (p := ⟨p, 0, none⟩) hpW hne]; exact x0, by rw [K9.out.cell (p := ⟨p, 1, none⟩) hpW hne]; exact x1⟩)) (fail)
  go_wp2
  exact bodyPost_ret (v := .agg #[.int .i64 ins, .slice a l.length c]) (by simp [results, Try.results49, go_sem, y0, y1]) rfl ⟨rfl, HB0.out.trans (K9.out.below (fun k e => by omega) HB0.out.size)⟩

/-- What grown does: the graph that is made, in new memory, and the wire. -/
def GrPost (w : World) (ins : Int) (r : List An × Int) (e : Ending) (w' : World) : Prop :=
  ∃ a c, e = .returned (.tuple #[.agg #[.int .i64 ins, .slice a r.1.length c], .int .i64 r.2]) ∧ WAns w' w.heap.size a r.1 ∧ Below w.heap.size w w'
theorem own_w {w : World} {B : Nat} {v : Value} {l : List An} (h : OwAn w 0 v l) (hB : ∀ k, v.ownBlock = some k → B ≤ k) : OwAn w B v l := by
  refine ⟨h.1, ?_⟩
  rcases h.2 with hn | ⟨g, cap, cur, rfl, hb, hgg, rest⟩
  · exact .inl hn
  · exact .inr ⟨g, cap, cur, rfl, hB g rfl, hgg, rest⟩
theorem copied {w W w9 : World} {ins : Int} {l : List An} {g' cp : Nat} (hB : Below w.heap.size w W) (hB9 : Below W.heap.size W w9) (hO : OwAn w9 W.heap.size (.slice (some ⟨g', 0, none⟩) l.length cp) l)
    (hK : Kept (fun k => k = w.heap.size + 1) w9 ((w9.setCell ⟨w.heap.size + 1, 0, none⟩ (.int .i64 ins)).setCell ⟨w.heap.size + 1, 1, none⟩ (.slice (some ⟨g', 0, none⟩) l.length cp))) (hs : W.heap.size = w.heap.size + 1 + 1) (x : Int) :
    GrPost w ins (l, x) (.returned (.tuple #[.agg #[.int .i64 ins, .slice (some ⟨g', 0, none⟩) l.length cp], .int .i64 x])) ((w9.setCell ⟨w.heap.size + 1, 0, none⟩ (.int .i64 ins)).setCell ⟨w.heap.size + 1, 1, none⟩ (.slice (some ⟨g', 0, none⟩) l.length cp)) := by
  have hg := hO.lt g' rfl
  have h2 := hO.kept hK (fun i e h => by have e' : g' = i := (by simpa [Value.ownBlock] using e); omega)
  obtain ⟨a, c, e, hw, _⟩ := (own_w ⟨h2.1, by rcases h2.2 with h | ⟨g, cap, cur, q1, q2, q3⟩; exact .inl h; exact .inr ⟨g, cap, cur, q1, Nat.zero_le _, q3⟩⟩ (B := w.heap.size) (fun k e => by have e' : g' = k := (by simpa [Value.ownBlock] using e); omega)).form
  cases e
  exact ⟨_, _, rfl, hw, hB.trans ((hB9.mono hB.size).trans (hK.below (fun k e => by omega) (Nat.le_trans hB.size hB9.size)))⟩

set_option maxHeartbeats 1000000 in
theorem clsAnd {w : World} {F : Nat → Prop} {p : Nat} {ins : Int} {l : List An} (h : Ne w F p ins l) (h0 : 0 ≤ ins) (h1 : ins ≤ 12) (hl : l.length ≤ 3000) (hok : okL ins l = true) (q1 q2 : Nat) (a b : Int) (hq1 : w.cell? ⟨q1, 0, none⟩ = some (.int .i64 a)) (hq2 : w.cell? ⟨q2, 0, none⟩ = some (.int .i64 b)) (ha : -9223372036854775808 ≤ a) (ha' : a ≤ 9223372036854775807) (hb : -9223372036854775808 ≤ b) (hb' : b ≤ 9223372036854775807) :
    Calls Try.prog 74 #[.pointer (some ⟨p, 0, none⟩), .pointer (some ⟨q1, 0, none⟩), .pointer (some ⟨q2, 0, none⟩)] w (AndPost w F p ins (andW ins l a b)) := by
  have H : Hid (Ne w F p ins l) := h
  clear h
  go_enter Try.func74, Try.ntmps74
  go_wp2_with fail
  refine (iAnd H.out h0 h1 hl a b).mono ?_
  rintro e w2 ⟨rfl, hn, hk⟩
  have HN : Hid (Ne w2 F p ins _) := hn
  have HK : Hid (Kept (fun k => ¬ F k) w w2) := hk
  clear hn hk
  go_wp2
  go_ret
  exact ⟨rfl, HN.out, HK.out⟩

set_option maxRecDepth 100000 in
set_option maxHeartbeats 4000000 in
theorem grownAnd (w : World) (ins : Int) (gx ox c : Nat) (l : List An) (h : Ans w (some ⟨gx, ox, none⟩) l) (hl : l.length ≤ 1048576) (q1 q2 : Nat) (a b : Int) (hq1 : w.cell? ⟨q1, 0, none⟩ = some (.int .i64 a)) (hq2 : w.cell? ⟨q2, 0, none⟩ = some (.int .i64 b)) (ha : -9223372036854775808 ≤ a) (ha' : a ≤ 9223372036854775807) (hb : -9223372036854775808 ≤ b) (hb' : b ≤ 9223372036854775807) :
    Calls Try.prog 73 #[.agg #[.int .i64 ins, .slice (some ⟨gx, ox, none⟩) l.length c], .func (.func 74) #[] #[.pointer (some ⟨q1, 0, none⟩), .pointer (some ⟨q2, 0, none⟩)]] w (GrPost w ins (gAnd ins l a b)) := by
  have H : Hid (Ans w (some ⟨gx, ox, none⟩) l) := h
  have hq1l : q1 < w.heap.size := lt_of_cell (p := ⟨q1, 0, none⟩) hq1
  have hq2l : q2 < w.heap.size := lt_of_cell (p := ⟨q2, 0, none⟩) hq2
  have HQ : Hid (w.cell? ⟨q1, 0, none⟩ = some (.int .i64 a) ∧ w.cell? ⟨q2, 0, none⟩ = some (.int .i64 b)) := ⟨hq1, hq2⟩
  clear h hq1 hq2
  go_enter Try.func73, Try.ntmps73
  go_upto_region 1 with fail
  obtain ⟨W, hW⟩ : ∃ W, W = (w.alloc (.cells #[.int .i64 ins, .slice (some ⟨gx, ox, none⟩) l.length c] 29)).alloc (.cells #[.int .i64 0, .slice none 0 0] 29) := ⟨_, rfl⟩
  have HB : Hid (Below w.heap.size w W) := by rw [hW]; exact ((Below.refl _ _).alloc (Nat.le_refl _) _).alloc (by simp) _
  have hs : W.heap.size = w.heap.size + 1 + 1 := by rw [hW]; simp
  have LG : Hid (Lay W w.heap.size (.int .i64 ins) (.slice (some ⟨gx, ox, none⟩) l.length c)) := by rw [hW]; exact (Lay.made _ _ _ _).alloc _
  have LR : Hid (Lay W (w.heap.size + 1) (.int .i64 0) (.slice none 0 0)) := by
    rw [hW]
    have h := Lay.made (w.alloc (.cells #[.int .i64 ins, .slice (some ⟨gx, ox, none⟩) l.length c] 29)) (.int .i64 0) (.slice none 0 0) 29
    have hA : (w.alloc (.cells #[.int .i64 ins, .slice (some ⟨gx, ox, none⟩) l.length c] 29)).heap.size = w.heap.size + 1 := by simp
    rw [hA] at h
    exact h
  rw [← hW]
  clear hW
  have c0 := LG.out.c0
  have c1 := LG.out.c1
  go_wp2_with fail
  refine (iNetOf _ ins _ c l (H.out.below HB.out)).mono ?_
  clear c0 c1
  have HCOPY : Hid (∀ (W2 : World) (r : List An × Int), Below W.heap.size W W2 → r = (l, -1) → True) := fun _ _ _ _ => trivial
  rintro e w2 (⟨hg, rfl, hb2⟩ | ⟨hg, p, rfl, hnet, hb2⟩)
  · have HR : Hid (gAnd ins l a b = (l, -1)) := by show _ = _; unfold gAnd; rw [if_neg (by rw [hg]; simp)]
    have HB2 : Hid (Below W.heap.size W w2) := hb2
    clear hg hb2
    have hw2s : W.heap.size ≤ w2.heap.size := HB2.out.size
    have L0 : Lay w2.drew w.heap.size (.int .i64 ins) (.slice (some ⟨gx, ox, none⟩) l.length c) := (LG.out.below HB2.out).drew
    have L1 : Lay (w2.alloc (.cells #[] 89)).drew w.heap.size (.int .i64 ins) (.slice (some ⟨gx, ox, none⟩) l.length c) := ((LG.out.below HB2.out).alloc _).drew
    have R1 : Hid (Lay (w2.alloc (.cells #[] 89)).drew (w.heap.size + 1) (.int .i64 0) (.slice none 0 0)) := ((LR.out.below HB2.out).alloc _).drew
    have HLIT : Hid (OwAn (w2.alloc (.cells #[] 89)).drew W.heap.size (.slice (some ⟨w2.heap.size, 0, none⟩) 0 0) []) := (OwAn.lit w2 W.heap.size hw2s).kept (S := fun _ => False) (Kept.refl _ _).drew (fun _ _ e => e)
    have hBa : Below W.heap.size W (w2.alloc (.cells #[] 89)).drew := (HB2.out.alloc hw2s _).drew
    have HBA : Hid (Below W.heap.size W (w2.alloc (.cells #[] 89)).drew) := hBa
    have HAX : Hid (Ans (w2.alloc (.cells #[] 89)).drew (some ⟨gx, ox, none⟩) l) := (H.out.below HB.out).below hBa
    have hBs : W.heap.size ≤ (w2.alloc (.cells #[] 89)).drew.heap.size := hBa.size
    clear hBa
    go_wp2
    go_region_held3 (fun w' => w'.cell? ⟨w.heap.size, 0, none⟩ = some (.int .i64 ins) ∧ w'.cell? ⟨w.heap.size, 1, none⟩ = some (.slice (some ⟨gx, ox, none⟩) l.length c)) ((first | exact ⟨L0.c0, L0.c1⟩ | exact ⟨L1.c0, L1.c1⟩ | exact ⟨L2.out.c0, L2.out.c1⟩ | exact ⟨L3.out.c0, L3.out.c1⟩)) ((refine step_ans _ (by rfl) _ _ (by rfl) W.heap.size _ gx ox c l (by rfl) (by rfl) HLIT.out HAX.out hBs (by omega) ?_; intro g' cp w9 hO9 hB9; have HO9 : Hid (OwAn w9 W.heap.size (.slice (some ⟨g', 0, none⟩) l.length cp) l) := hO9; have HB9 : Hid (Below W.heap.size W w9) := HBA.out.trans hB9; have L2 : Hid (Lay w9 w.heap.size (.int .i64 ins) (.slice (some ⟨gx, ox, none⟩) l.length c)) := LG.out.below HB9.out; have R2 := LR.out.below HB9.out; have y0 := R2.c0; have y1 := R2.c1; have z0 := R2.z0; have z1 := R2.z1; have K3 : Hid (Kept (fun k => k = w.heap.size + 1) w9 ((w9.setCell ⟨w.heap.size + 1, 0, none⟩ (.int .i64 ins)).setCell ⟨w.heap.size + 1, 1, none⟩ (.slice (some ⟨g', 0, none⟩) l.length cp))) := Kept.setCell (S := fun k => k = w.heap.size + 1) (Kept.setCell (S := fun k => k = w.heap.size + 1) (Kept.refl _ w9) (p := ⟨w.heap.size + 1, 0, none⟩) rfl _) (p := ⟨w.heap.size + 1, 1, none⟩) rfl _; have L3 : Hid (Lay ((w9.setCell ⟨w.heap.size + 1, 0, none⟩ (.int .i64 ins)).setCell ⟨w.heap.size + 1, 1, none⟩ (.slice (some ⟨g', 0, none⟩) l.length cp)) w.heap.size (.int .i64 ins) (.slice (some ⟨gx, ox, none⟩) l.length c)) := L2.out.kept K3.out (by omega); clear R2 hO9 hB9))
    go_wp2
    refine bodyPost_ret (v := .tuple #[.agg #[.int .i64 ins, .slice (some ⟨g', 0, none⟩) l.length cp], .int .i64 (-1)]) (by simp [results, Try.results73, go_sem, y0, y1]) rfl ?_
    rw [HR.out]
    exact copied HB.out HB9.out HO9.out K3.out hs (-1)
  have HB2 : Hid (Below W.heap.size W w2) := hb2
  obtain ⟨h0, h1, hl3, hok⟩ := gok_facts hg
  have HG : Hid (gAnd ins l a b = kept l (andW ins l a b)) := by show _ = _; unfold gAnd; rw [if_pos hg]
  have HOK : Hid (okL ins l = true) := hok
  have HNE : Hid (Ne w2 (fun k => k < W.heap.size) p ins l) := hnet
  clear hg hb2 hok hnet
  have r1 : w2.cell? ⟨q1, 0, none⟩ = some (.int .i64 a) := by rw [HB2.out.cell (by simp only; omega), HB.out.cell (by simp only; omega)]; exact HQ.out.1
  have r2 : w2.cell? ⟨q2, 0, none⟩ = some (.int .i64 b) := by rw [HB2.out.cell (by simp only; omega), HB.out.cell (by simp only; omega)]; exact HQ.out.2
  go_wp2_with fail
  refine (clsAnd HNE.out h0 h1 hl3 HOK.out q1 q2 a b r1 r2 ha ha' hb hb').mono ?_
  clear r1 r2
  generalize hrr : andW ins l a b = r at HG
  clear hrr
  obtain ⟨l2, x⟩ := r
  rintro e w3 ⟨rfl, hne3, hk3⟩
  have HB3 : Hid (Below W.heap.size W w3) := HB2.out.trans (keptB hk3 HB2.out.size)
  have HN3 : Hid (Ne w3 (fun k => k < W.heap.size) p ins l2) := hne3
  clear hne3 hk3
  simp only
  by_cases hx : x = -1
  · subst hx
    have HR : Hid (gAnd ins l a b = (l, -1)) := by show _ = _; rw [HG.out]; rfl
    have hw2s : W.heap.size ≤ w3.heap.size := HB3.out.size
    have L0 : Lay w3.drew w.heap.size (.int .i64 ins) (.slice (some ⟨gx, ox, none⟩) l.length c) := (LG.out.below HB3.out).drew
    have L1 : Lay (w3.alloc (.cells #[] 89)).drew w.heap.size (.int .i64 ins) (.slice (some ⟨gx, ox, none⟩) l.length c) := ((LG.out.below HB3.out).alloc _).drew
    have R1 : Hid (Lay (w3.alloc (.cells #[] 89)).drew (w.heap.size + 1) (.int .i64 0) (.slice none 0 0)) := ((LR.out.below HB3.out).alloc _).drew
    have HLIT : Hid (OwAn (w3.alloc (.cells #[] 89)).drew W.heap.size (.slice (some ⟨w3.heap.size, 0, none⟩) 0 0) []) := (OwAn.lit w3 W.heap.size hw2s).kept (S := fun _ => False) (Kept.refl _ _).drew (fun _ _ e => e)
    have hBa : Below W.heap.size W (w3.alloc (.cells #[] 89)).drew := (HB3.out.alloc hw2s _).drew
    have HBA : Hid (Below W.heap.size W (w3.alloc (.cells #[] 89)).drew) := hBa
    have HAX : Hid (Ans (w3.alloc (.cells #[] 89)).drew (some ⟨gx, ox, none⟩) l) := (H.out.below HB.out).below hBa
    have hBs : W.heap.size ≤ (w3.alloc (.cells #[] 89)).drew.heap.size := hBa.size
    clear hBa
    go_wp2
    go_region_held3 (fun w' => w'.cell? ⟨w.heap.size, 0, none⟩ = some (.int .i64 ins) ∧ w'.cell? ⟨w.heap.size, 1, none⟩ = some (.slice (some ⟨gx, ox, none⟩) l.length c)) ((first | exact ⟨L0.c0, L0.c1⟩ | exact ⟨L1.c0, L1.c1⟩ | exact ⟨L2.out.c0, L2.out.c1⟩ | exact ⟨L3.out.c0, L3.out.c1⟩)) ((refine step_ans _ (by rfl) _ _ (by rfl) W.heap.size _ gx ox c l (by rfl) (by rfl) HLIT.out HAX.out hBs (by omega) ?_; intro g' cp w9 hO9 hB9; have HO9 : Hid (OwAn w9 W.heap.size (.slice (some ⟨g', 0, none⟩) l.length cp) l) := hO9; have HB9 : Hid (Below W.heap.size W w9) := HBA.out.trans hB9; have L2 : Hid (Lay w9 w.heap.size (.int .i64 ins) (.slice (some ⟨gx, ox, none⟩) l.length c)) := LG.out.below HB9.out; have R2 := LR.out.below HB9.out; have y0 := R2.c0; have y1 := R2.c1; have z0 := R2.z0; have z1 := R2.z1; have K3 : Hid (Kept (fun k => k = w.heap.size + 1) w9 ((w9.setCell ⟨w.heap.size + 1, 0, none⟩ (.int .i64 ins)).setCell ⟨w.heap.size + 1, 1, none⟩ (.slice (some ⟨g', 0, none⟩) l.length cp))) := Kept.setCell (S := fun k => k = w.heap.size + 1) (Kept.setCell (S := fun k => k = w.heap.size + 1) (Kept.refl _ w9) (p := ⟨w.heap.size + 1, 0, none⟩) rfl _) (p := ⟨w.heap.size + 1, 1, none⟩) rfl _; have L3 : Hid (Lay ((w9.setCell ⟨w.heap.size + 1, 0, none⟩ (.int .i64 ins)).setCell ⟨w.heap.size + 1, 1, none⟩ (.slice (some ⟨g', 0, none⟩) l.length cp)) w.heap.size (.int .i64 ins) (.slice (some ⟨gx, ox, none⟩) l.length c)) := L2.out.kept K3.out (by omega); clear R2 hO9 hB9))
    go_wp2
    refine bodyPost_ret (v := .tuple #[.agg #[.int .i64 ins, .slice (some ⟨g', 0, none⟩) l.length cp], .int .i64 (-1)]) (by simp [results, Try.results73, go_sem, y0, y1]) rfl ?_
    rw [HR.out]
    exact copied HB.out HB9.out HO9.out K3.out hs (-1)
  have HR : Hid (gAnd ins l a b = (l2, x)) := by show _ = _; rw [HG.out]; unfold kept; rw [if_neg hx]
  have hxb : (x != -1) = true := bne_iff_ne.2 hx
  clear hx
  obtain ⟨v, bm, hn3⟩ := HN3.out
  obtain ⟨av, cv, rfl, _, _⟩ := hn3.slice
  have HNT : Hid (Nt w3 (fun k => k < W.heap.size) p ins l2 (.slice av l2.length cv) bm) := hn3
  clear hn3
  go_wp2_with fail
  refine (iGraph HNT.out).mono ?_
  rintro e w9 ⟨rfl, hb9⟩
  have HB9 : Hid (Below W.heap.size W w9) := HB3.out.trans (hb9.mono HB3.out.size)
  have HN9 : Hid (Nt w9 (fun k => k < W.heap.size) p ins l2 (.slice av l2.length cv) bm) := HNT.out.below hb9
  have R2 := LR.out.below HB9.out
  have y0 := R2.c0
  have y1 := R2.c1
  have z0 := R2.z0
  have z1 := R2.z1
  clear R2 hb9
  go_wp2
  refine bodyPost_ret (v := .tuple #[.agg #[.int .i64 ins, .slice av l2.length cv], .int .i64 x]) (by simp [results, Try.results73, go_sem, y0, y1]) rfl ?_
  rw [HR.out]
  have K3 : Kept (fun k => k = w.heap.size + 1) w9 ((w9.setCell ⟨w.heap.size + 1, 0, none⟩ (.int .i64 ins)).setCell ⟨w.heap.size + 1, 1, none⟩ (.slice av l2.length cv)) := Kept.setCell (S := fun k => k = w.heap.size + 1) (Kept.setCell (S := fun k => k = w.heap.size + 1) (Kept.refl _ w9) (p := ⟨w.heap.size + 1, 0, none⟩) rfl _) (p := ⟨w.heap.size + 1, 1, none⟩) rfl _
  have hN9 := HN9.out
  have hfv : ∀ k, (Value.slice av l2.length cv).ownBlock = some k → W.heap.size ≤ k := fun k e => Nat.le_of_not_lt (hN9.fv k e)
  have hO := (own_w hN9.own (B := w.heap.size) (fun k e => by have := hfv k e; omega)).kept K3 (fun k e h => by have := hfv k e; omega)
  obtain ⟨a2, c2, e2, hw2, _⟩ := hO.form
  cases e2
  exact ⟨_, _, rfl, hw2, HB.out.trans ((HB9.out.mono HB.out.size).trans (K3.below (fun k e => by omega) (Nat.le_trans HB.out.size HB9.out.size)))⟩

set_option maxHeartbeats 2000000 in
theorem iGraphAnd (w : World) (ins : Int) (gx ox c : Nat) (l : List An) (h : Ans w (some ⟨gx, ox, none⟩) l) (hl : l.length ≤ 1048576) (a b : Int) (ha : -9223372036854775808 ≤ a) (ha' : a ≤ 9223372036854775807) (hb : -9223372036854775808 ≤ b) (hb' : b ≤ 9223372036854775807) :
    Calls Try.prog 29 #[.agg #[.int .i64 ins, .slice (some ⟨gx, ox, none⟩) l.length c], .int .i64 a, .int .i64 b] w (GrPost w ins (gAnd ins l a b)) := by
  have H : Hid (Ans w (some ⟨gx, ox, none⟩) l) := h
  have hmf : ∀ (fn : Fn) (first cap : Array Value) (w : World), (Instr.makeFunc fn first cap).run Try.prog w = .ok (.func fn first cap) w := fun _ _ _ _ => rfl
  clear h
  go_enter Try.func29, Try.ntmps29
  go_wp2_with fail
  clear hmf
  obtain ⟨W1, hW1⟩ : ∃ W1, W1 = w.alloc (.cells #[.int .i64 ins, .slice (some ⟨gx, ox, none⟩) l.length c] 29) := ⟨_, rfl⟩
  obtain ⟨W2, hW2⟩ : ∃ W2, W2 = W1.alloc (.cells #[.int .i64 a] 3) := ⟨_, rfl⟩
  obtain ⟨W3, hW3⟩ : ∃ W3, W3 = W2.alloc (.cells #[.int .i64 b] 3) := ⟨_, rfl⟩
  obtain ⟨W4, hW4⟩ : ∃ W4, W4 = W3.alloc (.cells #[.int .i64 0, .slice none 0 0] 29) := ⟨_, rfl⟩
  have s1 : W1.heap.size = w.heap.size + 1 := by rw [hW1]; simp
  have s2 : W2.heap.size = w.heap.size + 1 + 1 := by rw [hW2]; simp [s1]
  have s3 : W3.heap.size = w.heap.size + 1 + 1 + 1 := by rw [hW3]; simp [s2]
  have s4 : W4.heap.size = w.heap.size + 1 + 1 + 1 + 1 := by rw [hW4]; simp [s3]
  have B1 : Below w.heap.size w W1 := by rw [hW1]; exact (Below.refl _ _).alloc (Nat.le_refl _) _
  have B2 : Below W1.heap.size W1 W2 := by rw [hW2]; exact (Below.refl _ _).alloc (Nat.le_refl _) _
  have B3 : Below W2.heap.size W2 W3 := by rw [hW3]; exact (Below.refl _ _).alloc (Nat.le_refl _) _
  have B4 : Below W3.heap.size W3 W4 := by rw [hW4]; exact (Below.refl _ _).alloc (Nat.le_refl _) _
  have x1 : W4.cell? ⟨w.heap.size + 1, 0, none⟩ = some (.int .i64 a) := by
    rw [B4.cell (by simp only; omega), B3.cell (by simp only; omega), hW2, ← s1, World.cell?_alloc_new]; rfl
  have x2 : W4.cell? ⟨w.heap.size + 1 + 1, 0, none⟩ = some (.int .i64 b) := by
    rw [B4.cell (by simp only; omega), hW3, ← s2, World.cell?_alloc_new]; rfl
  have LR : Hid (Lay W4 (w.heap.size + 1 + 1 + 1) (.int .i64 0) (.slice none 0 0)) := by rw [hW4, ← s3]; exact Lay.made _ _ _ _
  have BW : Below w.heap.size w W4 := B1.trans ((B2.mono (by omega)).trans ((B3.mono (by omega)).trans (B4.mono (by omega))))
  have HBW : Hid (Below w.heap.size w W4) := BW
  have HS4 : Hid (W4.heap.size = w.heap.size + 1 + 1 + 1 + 1) := s4
  rw [← hW1, ← hW2, ← hW3, ← hW4]
  refine (grownAnd W4 ins gx ox c l (H.out.below BW) hl _ _ a b x1 x2 ha ha' hb hb').mono ?_
  clear hW1 hW2 hW3 hW4 s1 s2 s3 s4 B1 B2 B3 B4 x1 x2 BW
  generalize hrr : gAnd ins l a b = r
  obtain ⟨l2, x⟩ := r
  have HRR : Hid (gAnd ins l a b = (l2, x)) := hrr
  clear hrr
  rintro e w9 ⟨a9, c9, rfl, hw9, hb9⟩
  have HB9 : Hid (Below W4.heap.size W4 w9) := hb9
  have HW9 : Hid (WAns w9 W4.heap.size a9 l2) := hw9
  have R2 := LR.out.below hb9
  have y0 := R2.c0
  have y1 := R2.c1
  have z0 := R2.z0
  have z1 := R2.z1
  clear R2 hb9 hw9
  simp only
  go_wp2
  refine bodyPost_ret (v := .tuple #[.agg #[.int .i64 ins, .slice a9 l2.length c9], .int .i64 x]) (by simp [results, Try.results29, go_sem, y0, y1]) rfl ?_
  have hs := HS4.out
  have hbs := HB9.out.size
  rw [HRR.out]
  have K3 : Kept (fun k => k = w.heap.size + 1 + 1 + 1) w9 ((w9.setCell ⟨w.heap.size + 1 + 1 + 1, 0, none⟩ (.int .i64 ins)).setCell ⟨w.heap.size + 1 + 1 + 1, 1, none⟩ (.slice a9 l2.length c9)) := Kept.setCell (S := fun k => k = w.heap.size + 1 + 1 + 1) (Kept.setCell (S := fun k => k = w.heap.size + 1 + 1 + 1) (Kept.refl _ w9) (p := ⟨w.heap.size + 1 + 1 + 1, 0, none⟩) rfl _) (p := ⟨w.heap.size + 1 + 1 + 1, 1, none⟩) rfl _
  refine ⟨_, _, rfl, ?_, HBW.out.trans ((HB9.out.mono HBW.out.size).trans (K3.below (fun k e => by omega) (Nat.le_trans HBW.out.size HB9.out.size)))⟩
  have h2 := (HW9.out.within.kept K3 (fun b h1 h2 h3 => by omega)).wr
  refine ⟨h2.1, ?_⟩
  rcases h2.2 with e | ⟨b, o, ha, hB, hc, hf⟩
  · exact .inl e
  · exact .inr ⟨b, o, ha, by omega, hc, hf⟩

set_option maxHeartbeats 1000000 in
theorem clsOr {w : World} {F : Nat → Prop} {p : Nat} {ins : Int} {l : List An} (h : Ne w F p ins l) (h0 : 0 ≤ ins) (h1 : ins ≤ 12) (hl : l.length ≤ 3000) (hok : okL ins l = true) (q1 q2 : Nat) (a b : Int) (hq1 : w.cell? ⟨q1, 0, none⟩ = some (.int .i64 a)) (hq2 : w.cell? ⟨q2, 0, none⟩ = some (.int .i64 b)) (ha : -9223372036854775808 ≤ a) (ha' : a ≤ 9223372036854775807) (hb : -9223372036854775808 ≤ b) (hb' : b ≤ 9223372036854775807) :
    Calls Try.prog 79 #[.pointer (some ⟨p, 0, none⟩), .pointer (some ⟨q1, 0, none⟩), .pointer (some ⟨q2, 0, none⟩)] w (AndPost w F p ins (orW ins l a b)) := by
  have H : Hid (Ne w F p ins l) := h
  have HOKC : Hid (okL ins l = true) := hok
  clear h hok
  go_enter Try.func79, Try.ntmps79
  go_wp2_with fail
  refine (iOr H.out h0 h1 hl HOKC.out a b ha ha' hb hb').mono ?_
  rintro e w2 ⟨rfl, hn, hk⟩
  have HN : Hid (Ne w2 F p ins _) := hn
  have HK : Hid (Kept (fun k => ¬ F k) w w2) := hk
  clear hn hk
  go_wp2
  go_ret
  exact ⟨rfl, HN.out, HK.out⟩

set_option maxRecDepth 100000 in
set_option maxHeartbeats 4000000 in
theorem grownOr (w : World) (ins : Int) (gx ox c : Nat) (l : List An) (h : Ans w (some ⟨gx, ox, none⟩) l) (hl : l.length ≤ 1048576) (q1 q2 : Nat) (a b : Int) (hq1 : w.cell? ⟨q1, 0, none⟩ = some (.int .i64 a)) (hq2 : w.cell? ⟨q2, 0, none⟩ = some (.int .i64 b)) (ha : -9223372036854775808 ≤ a) (ha' : a ≤ 9223372036854775807) (hb : -9223372036854775808 ≤ b) (hb' : b ≤ 9223372036854775807) :
    Calls Try.prog 73 #[.agg #[.int .i64 ins, .slice (some ⟨gx, ox, none⟩) l.length c], .func (.func 79) #[] #[.pointer (some ⟨q1, 0, none⟩), .pointer (some ⟨q2, 0, none⟩)]] w (GrPost w ins (gOr ins l a b)) := by
  have H : Hid (Ans w (some ⟨gx, ox, none⟩) l) := h
  have hq1l : q1 < w.heap.size := lt_of_cell (p := ⟨q1, 0, none⟩) hq1
  have hq2l : q2 < w.heap.size := lt_of_cell (p := ⟨q2, 0, none⟩) hq2
  have HQ : Hid (w.cell? ⟨q1, 0, none⟩ = some (.int .i64 a) ∧ w.cell? ⟨q2, 0, none⟩ = some (.int .i64 b)) := ⟨hq1, hq2⟩
  clear h hq1 hq2
  go_enter Try.func73, Try.ntmps73
  go_upto_region 1 with fail
  obtain ⟨W, hW⟩ : ∃ W, W = (w.alloc (.cells #[.int .i64 ins, .slice (some ⟨gx, ox, none⟩) l.length c] 29)).alloc (.cells #[.int .i64 0, .slice none 0 0] 29) := ⟨_, rfl⟩
  have HB : Hid (Below w.heap.size w W) := by rw [hW]; exact ((Below.refl _ _).alloc (Nat.le_refl _) _).alloc (by simp) _
  have hs : W.heap.size = w.heap.size + 1 + 1 := by rw [hW]; simp
  have LG : Hid (Lay W w.heap.size (.int .i64 ins) (.slice (some ⟨gx, ox, none⟩) l.length c)) := by rw [hW]; exact (Lay.made _ _ _ _).alloc _
  have LR : Hid (Lay W (w.heap.size + 1) (.int .i64 0) (.slice none 0 0)) := by
    rw [hW]
    have h := Lay.made (w.alloc (.cells #[.int .i64 ins, .slice (some ⟨gx, ox, none⟩) l.length c] 29)) (.int .i64 0) (.slice none 0 0) 29
    have hA : (w.alloc (.cells #[.int .i64 ins, .slice (some ⟨gx, ox, none⟩) l.length c] 29)).heap.size = w.heap.size + 1 := by simp
    rw [hA] at h
    exact h
  rw [← hW]
  clear hW
  have c0 := LG.out.c0
  have c1 := LG.out.c1
  go_wp2_with fail
  refine (iNetOf _ ins _ c l (H.out.below HB.out)).mono ?_
  clear c0 c1
  have HCOPY : Hid (∀ (W2 : World) (r : List An × Int), Below W.heap.size W W2 → r = (l, -1) → True) := fun _ _ _ _ => trivial
  rintro e w2 (⟨hg, rfl, hb2⟩ | ⟨hg, p, rfl, hnet, hb2⟩)
  · have HR : Hid (gOr ins l a b = (l, -1)) := by show _ = _; unfold gOr; rw [if_neg (by rw [hg]; simp)]
    have HB2 : Hid (Below W.heap.size W w2) := hb2
    clear hg hb2
    have hw2s : W.heap.size ≤ w2.heap.size := HB2.out.size
    have L0 : Lay w2.drew w.heap.size (.int .i64 ins) (.slice (some ⟨gx, ox, none⟩) l.length c) := (LG.out.below HB2.out).drew
    have L1 : Lay (w2.alloc (.cells #[] 89)).drew w.heap.size (.int .i64 ins) (.slice (some ⟨gx, ox, none⟩) l.length c) := ((LG.out.below HB2.out).alloc _).drew
    have R1 : Hid (Lay (w2.alloc (.cells #[] 89)).drew (w.heap.size + 1) (.int .i64 0) (.slice none 0 0)) := ((LR.out.below HB2.out).alloc _).drew
    have HLIT : Hid (OwAn (w2.alloc (.cells #[] 89)).drew W.heap.size (.slice (some ⟨w2.heap.size, 0, none⟩) 0 0) []) := (OwAn.lit w2 W.heap.size hw2s).kept (S := fun _ => False) (Kept.refl _ _).drew (fun _ _ e => e)
    have hBa : Below W.heap.size W (w2.alloc (.cells #[] 89)).drew := (HB2.out.alloc hw2s _).drew
    have HBA : Hid (Below W.heap.size W (w2.alloc (.cells #[] 89)).drew) := hBa
    have HAX : Hid (Ans (w2.alloc (.cells #[] 89)).drew (some ⟨gx, ox, none⟩) l) := (H.out.below HB.out).below hBa
    have hBs : W.heap.size ≤ (w2.alloc (.cells #[] 89)).drew.heap.size := hBa.size
    clear hBa
    go_wp2
    go_region_held3 (fun w' => w'.cell? ⟨w.heap.size, 0, none⟩ = some (.int .i64 ins) ∧ w'.cell? ⟨w.heap.size, 1, none⟩ = some (.slice (some ⟨gx, ox, none⟩) l.length c)) ((first | exact ⟨L0.c0, L0.c1⟩ | exact ⟨L1.c0, L1.c1⟩ | exact ⟨L2.out.c0, L2.out.c1⟩ | exact ⟨L3.out.c0, L3.out.c1⟩)) ((refine step_ans _ (by rfl) _ _ (by rfl) W.heap.size _ gx ox c l (by rfl) (by rfl) HLIT.out HAX.out hBs (by omega) ?_; intro g' cp w9 hO9 hB9; have HO9 : Hid (OwAn w9 W.heap.size (.slice (some ⟨g', 0, none⟩) l.length cp) l) := hO9; have HB9 : Hid (Below W.heap.size W w9) := HBA.out.trans hB9; have L2 : Hid (Lay w9 w.heap.size (.int .i64 ins) (.slice (some ⟨gx, ox, none⟩) l.length c)) := LG.out.below HB9.out; have R2 := LR.out.below HB9.out; have y0 := R2.c0; have y1 := R2.c1; have z0 := R2.z0; have z1 := R2.z1; have K3 : Hid (Kept (fun k => k = w.heap.size + 1) w9 ((w9.setCell ⟨w.heap.size + 1, 0, none⟩ (.int .i64 ins)).setCell ⟨w.heap.size + 1, 1, none⟩ (.slice (some ⟨g', 0, none⟩) l.length cp))) := Kept.setCell (S := fun k => k = w.heap.size + 1) (Kept.setCell (S := fun k => k = w.heap.size + 1) (Kept.refl _ w9) (p := ⟨w.heap.size + 1, 0, none⟩) rfl _) (p := ⟨w.heap.size + 1, 1, none⟩) rfl _; have L3 : Hid (Lay ((w9.setCell ⟨w.heap.size + 1, 0, none⟩ (.int .i64 ins)).setCell ⟨w.heap.size + 1, 1, none⟩ (.slice (some ⟨g', 0, none⟩) l.length cp)) w.heap.size (.int .i64 ins) (.slice (some ⟨gx, ox, none⟩) l.length c)) := L2.out.kept K3.out (by omega); clear R2 hO9 hB9))
    go_wp2
    refine bodyPost_ret (v := .tuple #[.agg #[.int .i64 ins, .slice (some ⟨g', 0, none⟩) l.length cp], .int .i64 (-1)]) (by simp [results, Try.results73, go_sem, y0, y1]) rfl ?_
    rw [HR.out]
    exact copied HB.out HB9.out HO9.out K3.out hs (-1)
  have HB2 : Hid (Below W.heap.size W w2) := hb2
  obtain ⟨h0, h1, hl3, hok⟩ := gok_facts hg
  have HG : Hid (gOr ins l a b = kept l (orW ins l a b)) := by show _ = _; unfold gOr; rw [if_pos hg]
  have HOK : Hid (okL ins l = true) := hok
  have HNE : Hid (Ne w2 (fun k => k < W.heap.size) p ins l) := hnet
  clear hg hb2 hok hnet
  have r1 : w2.cell? ⟨q1, 0, none⟩ = some (.int .i64 a) := by rw [HB2.out.cell (by simp only; omega), HB.out.cell (by simp only; omega)]; exact HQ.out.1
  have r2 : w2.cell? ⟨q2, 0, none⟩ = some (.int .i64 b) := by rw [HB2.out.cell (by simp only; omega), HB.out.cell (by simp only; omega)]; exact HQ.out.2
  go_wp2_with fail
  refine (clsOr HNE.out h0 h1 hl3 HOK.out q1 q2 a b r1 r2 ha ha' hb hb').mono ?_
  clear r1 r2
  generalize hrr : orW ins l a b = r at HG
  clear hrr
  obtain ⟨l2, x⟩ := r
  rintro e w3 ⟨rfl, hne3, hk3⟩
  have HB3 : Hid (Below W.heap.size W w3) := HB2.out.trans (keptB hk3 HB2.out.size)
  have HN3 : Hid (Ne w3 (fun k => k < W.heap.size) p ins l2) := hne3
  clear hne3 hk3
  simp only
  by_cases hx : x = -1
  · subst hx
    have HR : Hid (gOr ins l a b = (l, -1)) := by show _ = _; rw [HG.out]; rfl
    have hw2s : W.heap.size ≤ w3.heap.size := HB3.out.size
    have L0 : Lay w3.drew w.heap.size (.int .i64 ins) (.slice (some ⟨gx, ox, none⟩) l.length c) := (LG.out.below HB3.out).drew
    have L1 : Lay (w3.alloc (.cells #[] 89)).drew w.heap.size (.int .i64 ins) (.slice (some ⟨gx, ox, none⟩) l.length c) := ((LG.out.below HB3.out).alloc _).drew
    have R1 : Hid (Lay (w3.alloc (.cells #[] 89)).drew (w.heap.size + 1) (.int .i64 0) (.slice none 0 0)) := ((LR.out.below HB3.out).alloc _).drew
    have HLIT : Hid (OwAn (w3.alloc (.cells #[] 89)).drew W.heap.size (.slice (some ⟨w3.heap.size, 0, none⟩) 0 0) []) := (OwAn.lit w3 W.heap.size hw2s).kept (S := fun _ => False) (Kept.refl _ _).drew (fun _ _ e => e)
    have hBa : Below W.heap.size W (w3.alloc (.cells #[] 89)).drew := (HB3.out.alloc hw2s _).drew
    have HBA : Hid (Below W.heap.size W (w3.alloc (.cells #[] 89)).drew) := hBa
    have HAX : Hid (Ans (w3.alloc (.cells #[] 89)).drew (some ⟨gx, ox, none⟩) l) := (H.out.below HB.out).below hBa
    have hBs : W.heap.size ≤ (w3.alloc (.cells #[] 89)).drew.heap.size := hBa.size
    clear hBa
    go_wp2
    go_region_held3 (fun w' => w'.cell? ⟨w.heap.size, 0, none⟩ = some (.int .i64 ins) ∧ w'.cell? ⟨w.heap.size, 1, none⟩ = some (.slice (some ⟨gx, ox, none⟩) l.length c)) ((first | exact ⟨L0.c0, L0.c1⟩ | exact ⟨L1.c0, L1.c1⟩ | exact ⟨L2.out.c0, L2.out.c1⟩ | exact ⟨L3.out.c0, L3.out.c1⟩)) ((refine step_ans _ (by rfl) _ _ (by rfl) W.heap.size _ gx ox c l (by rfl) (by rfl) HLIT.out HAX.out hBs (by omega) ?_; intro g' cp w9 hO9 hB9; have HO9 : Hid (OwAn w9 W.heap.size (.slice (some ⟨g', 0, none⟩) l.length cp) l) := hO9; have HB9 : Hid (Below W.heap.size W w9) := HBA.out.trans hB9; have L2 : Hid (Lay w9 w.heap.size (.int .i64 ins) (.slice (some ⟨gx, ox, none⟩) l.length c)) := LG.out.below HB9.out; have R2 := LR.out.below HB9.out; have y0 := R2.c0; have y1 := R2.c1; have z0 := R2.z0; have z1 := R2.z1; have K3 : Hid (Kept (fun k => k = w.heap.size + 1) w9 ((w9.setCell ⟨w.heap.size + 1, 0, none⟩ (.int .i64 ins)).setCell ⟨w.heap.size + 1, 1, none⟩ (.slice (some ⟨g', 0, none⟩) l.length cp))) := Kept.setCell (S := fun k => k = w.heap.size + 1) (Kept.setCell (S := fun k => k = w.heap.size + 1) (Kept.refl _ w9) (p := ⟨w.heap.size + 1, 0, none⟩) rfl _) (p := ⟨w.heap.size + 1, 1, none⟩) rfl _; have L3 : Hid (Lay ((w9.setCell ⟨w.heap.size + 1, 0, none⟩ (.int .i64 ins)).setCell ⟨w.heap.size + 1, 1, none⟩ (.slice (some ⟨g', 0, none⟩) l.length cp)) w.heap.size (.int .i64 ins) (.slice (some ⟨gx, ox, none⟩) l.length c)) := L2.out.kept K3.out (by omega); clear R2 hO9 hB9))
    go_wp2
    refine bodyPost_ret (v := .tuple #[.agg #[.int .i64 ins, .slice (some ⟨g', 0, none⟩) l.length cp], .int .i64 (-1)]) (by simp [results, Try.results73, go_sem, y0, y1]) rfl ?_
    rw [HR.out]
    exact copied HB.out HB9.out HO9.out K3.out hs (-1)
  have HR : Hid (gOr ins l a b = (l2, x)) := by show _ = _; rw [HG.out]; unfold kept; rw [if_neg hx]
  have hxb : (x != -1) = true := bne_iff_ne.2 hx
  clear hx
  obtain ⟨v, bm, hn3⟩ := HN3.out
  obtain ⟨av, cv, rfl, _, _⟩ := hn3.slice
  have HNT : Hid (Nt w3 (fun k => k < W.heap.size) p ins l2 (.slice av l2.length cv) bm) := hn3
  clear hn3
  go_wp2_with fail
  refine (iGraph HNT.out).mono ?_
  rintro e w9 ⟨rfl, hb9⟩
  have HB9 : Hid (Below W.heap.size W w9) := HB3.out.trans (hb9.mono HB3.out.size)
  have HN9 : Hid (Nt w9 (fun k => k < W.heap.size) p ins l2 (.slice av l2.length cv) bm) := HNT.out.below hb9
  have R2 := LR.out.below HB9.out
  have y0 := R2.c0
  have y1 := R2.c1
  have z0 := R2.z0
  have z1 := R2.z1
  clear R2 hb9
  go_wp2
  refine bodyPost_ret (v := .tuple #[.agg #[.int .i64 ins, .slice av l2.length cv], .int .i64 x]) (by simp [results, Try.results73, go_sem, y0, y1]) rfl ?_
  rw [HR.out]
  have K3 : Kept (fun k => k = w.heap.size + 1) w9 ((w9.setCell ⟨w.heap.size + 1, 0, none⟩ (.int .i64 ins)).setCell ⟨w.heap.size + 1, 1, none⟩ (.slice av l2.length cv)) := Kept.setCell (S := fun k => k = w.heap.size + 1) (Kept.setCell (S := fun k => k = w.heap.size + 1) (Kept.refl _ w9) (p := ⟨w.heap.size + 1, 0, none⟩) rfl _) (p := ⟨w.heap.size + 1, 1, none⟩) rfl _
  have hN9 := HN9.out
  have hfv : ∀ k, (Value.slice av l2.length cv).ownBlock = some k → W.heap.size ≤ k := fun k e => Nat.le_of_not_lt (hN9.fv k e)
  have hO := (own_w hN9.own (B := w.heap.size) (fun k e => by have := hfv k e; omega)).kept K3 (fun k e h => by have := hfv k e; omega)
  obtain ⟨a2, c2, e2, hw2, _⟩ := hO.form
  cases e2
  exact ⟨_, _, rfl, hw2, HB.out.trans ((HB9.out.mono HB.out.size).trans (K3.below (fun k e => by omega) (Nat.le_trans HB.out.size HB9.out.size)))⟩

set_option maxHeartbeats 2000000 in
theorem iGraphOr (w : World) (ins : Int) (gx ox c : Nat) (l : List An) (h : Ans w (some ⟨gx, ox, none⟩) l) (hl : l.length ≤ 1048576) (a b : Int) (ha : -9223372036854775808 ≤ a) (ha' : a ≤ 9223372036854775807) (hb : -9223372036854775808 ≤ b) (hb' : b ≤ 9223372036854775807) :
    Calls Try.prog 33 #[.agg #[.int .i64 ins, .slice (some ⟨gx, ox, none⟩) l.length c], .int .i64 a, .int .i64 b] w (GrPost w ins (gOr ins l a b)) := by
  have H : Hid (Ans w (some ⟨gx, ox, none⟩) l) := h
  have hmf : ∀ (fn : Fn) (first cap : Array Value) (w : World), (Instr.makeFunc fn first cap).run Try.prog w = .ok (.func fn first cap) w := fun _ _ _ _ => rfl
  clear h
  go_enter Try.func33, Try.ntmps33
  go_wp2_with fail
  clear hmf
  obtain ⟨W1, hW1⟩ : ∃ W1, W1 = w.alloc (.cells #[.int .i64 ins, .slice (some ⟨gx, ox, none⟩) l.length c] 29) := ⟨_, rfl⟩
  obtain ⟨W2, hW2⟩ : ∃ W2, W2 = W1.alloc (.cells #[.int .i64 a] 3) := ⟨_, rfl⟩
  obtain ⟨W3, hW3⟩ : ∃ W3, W3 = W2.alloc (.cells #[.int .i64 b] 3) := ⟨_, rfl⟩
  obtain ⟨W4, hW4⟩ : ∃ W4, W4 = W3.alloc (.cells #[.int .i64 0, .slice none 0 0] 29) := ⟨_, rfl⟩
  have s1 : W1.heap.size = w.heap.size + 1 := by rw [hW1]; simp
  have s2 : W2.heap.size = w.heap.size + 1 + 1 := by rw [hW2]; simp [s1]
  have s3 : W3.heap.size = w.heap.size + 1 + 1 + 1 := by rw [hW3]; simp [s2]
  have s4 : W4.heap.size = w.heap.size + 1 + 1 + 1 + 1 := by rw [hW4]; simp [s3]
  have B1 : Below w.heap.size w W1 := by rw [hW1]; exact (Below.refl _ _).alloc (Nat.le_refl _) _
  have B2 : Below W1.heap.size W1 W2 := by rw [hW2]; exact (Below.refl _ _).alloc (Nat.le_refl _) _
  have B3 : Below W2.heap.size W2 W3 := by rw [hW3]; exact (Below.refl _ _).alloc (Nat.le_refl _) _
  have B4 : Below W3.heap.size W3 W4 := by rw [hW4]; exact (Below.refl _ _).alloc (Nat.le_refl _) _
  have x1 : W4.cell? ⟨w.heap.size + 1, 0, none⟩ = some (.int .i64 a) := by
    rw [B4.cell (by simp only; omega), B3.cell (by simp only; omega), hW2, ← s1, World.cell?_alloc_new]; rfl
  have x2 : W4.cell? ⟨w.heap.size + 1 + 1, 0, none⟩ = some (.int .i64 b) := by
    rw [B4.cell (by simp only; omega), hW3, ← s2, World.cell?_alloc_new]; rfl
  have LR : Hid (Lay W4 (w.heap.size + 1 + 1 + 1) (.int .i64 0) (.slice none 0 0)) := by rw [hW4, ← s3]; exact Lay.made _ _ _ _
  have BW : Below w.heap.size w W4 := B1.trans ((B2.mono (by omega)).trans ((B3.mono (by omega)).trans (B4.mono (by omega))))
  have HBW : Hid (Below w.heap.size w W4) := BW
  have HS4 : Hid (W4.heap.size = w.heap.size + 1 + 1 + 1 + 1) := s4
  rw [← hW1, ← hW2, ← hW3, ← hW4]
  refine (grownOr W4 ins gx ox c l (H.out.below BW) hl _ _ a b x1 x2 ha ha' hb hb').mono ?_
  clear hW1 hW2 hW3 hW4 s1 s2 s3 s4 B1 B2 B3 B4 x1 x2 BW
  generalize hrr : gOr ins l a b = r
  obtain ⟨l2, x⟩ := r
  have HRR : Hid (gOr ins l a b = (l2, x)) := hrr
  clear hrr
  rintro e w9 ⟨a9, c9, rfl, hw9, hb9⟩
  have HB9 : Hid (Below W4.heap.size W4 w9) := hb9
  have HW9 : Hid (WAns w9 W4.heap.size a9 l2) := hw9
  have R2 := LR.out.below hb9
  have y0 := R2.c0
  have y1 := R2.c1
  have z0 := R2.z0
  have z1 := R2.z1
  clear R2 hb9 hw9
  simp only
  go_wp2
  refine bodyPost_ret (v := .tuple #[.agg #[.int .i64 ins, .slice a9 l2.length c9], .int .i64 x]) (by simp [results, Try.results33, go_sem, y0, y1]) rfl ?_
  have hs := HS4.out
  have hbs := HB9.out.size
  rw [HRR.out]
  have K3 : Kept (fun k => k = w.heap.size + 1 + 1 + 1) w9 ((w9.setCell ⟨w.heap.size + 1 + 1 + 1, 0, none⟩ (.int .i64 ins)).setCell ⟨w.heap.size + 1 + 1 + 1, 1, none⟩ (.slice a9 l2.length c9)) := Kept.setCell (S := fun k => k = w.heap.size + 1 + 1 + 1) (Kept.setCell (S := fun k => k = w.heap.size + 1 + 1 + 1) (Kept.refl _ w9) (p := ⟨w.heap.size + 1 + 1 + 1, 0, none⟩) rfl _) (p := ⟨w.heap.size + 1 + 1 + 1, 1, none⟩) rfl _
  refine ⟨_, _, rfl, ?_, HBW.out.trans ((HB9.out.mono HBW.out.size).trans (K3.below (fun k e => by omega) (Nat.le_trans HBW.out.size HB9.out.size)))⟩
  have h2 := (HW9.out.within.kept K3 (fun b h1 h2 h3 => by omega)).wr
  refine ⟨h2.1, ?_⟩
  rcases h2.2 with e | ⟨b, o, ha, hB, hc, hf⟩
  · exact .inl e
  · exact .inr ⟨b, o, ha, by omega, hc, hf⟩

end Go.Proofs.Ytnpfegfjejfaaaa.Gp5
