/- The walk of the program's Parts. -/
import Derived.Test.YtjhhmnelddidjaaPg1
namespace Go.Proofs.Ytjhhmnelddidjaa.Pg2
open Go.RowKit
open Nd0 Tm0 Tm5 Pl1 Ap0 Pg1
open Ws1 (ret_int ret_bool)
set_option linter.unusedVariables false

/-- Some numbers more. -/
theorem app_ints {ops : Array Oper} {rest : List Oper} {o : Oper} {a : Act} {Q : Exit → Act → World → Prop} (W : World) (hgd : o.guard = none) (s x : Operand)
    (ho : o.op = .call { callee := .builtin .append, args := #[s, x], argTypes := #[56, 56] })
    (B : Nat) (v : Value) (l ys : List Int) (g c : Nat) (hs : a.eval s = v) (hx : a.eval x = .slice (some ⟨g, 0, none⟩) ys.length c)
    (hy : ∀ j (h : j < ys.length), W.cell? ⟨g, j, none⟩ = some (.int .i64 ys[j])) (hp : 0 < ys.length)
    (hown : Ows W B v l) (hB : B ≤ W.heap.size) (hlen : l.length + ys.length ≤ 1048577)
    (h : ∀ g cap w', Ows w' B (.slice (some ⟨g, 0, none⟩) (l.length + ys.length) cap) (l ++ ys) → Kept (fun k => v.ownBlock = some k) W w' → wpList Try.prog ops Q rest (a.put o.dst (.slice (some ⟨g, 0, none⟩) (l.length + ys.length) cap)) w') :
    wpList Try.prog ops Q (o :: rest) a W := by
  obtain ⟨i, hi, hzz⟩ := Option.map_eq_some_iff.1 infoInt
  simp only [Prod.mk.injEq] at hzz
  obtain ⟨hz, hsz, hb⟩ := hzz
  refine wpList_append_lies W hgd s x 56 ho B 3 i (.int .i64 0) 1 8 Try.underlying56 hi hz hsz hb rfl (by omega) v l.length (l.map fun x => .int .i64 x) hs hown
    ⟨g, 0, none⟩ ys.length c (ys.map fun x => .int .i64 x) hx (by simp) ?_ ?_ hp (by unfold maxLen; omega) (by omega) hB _ rfl ?_
  · intro j u hu
    have hadd : (⟨g, 0, none⟩ : Addr).add j = ⟨g, j, none⟩ := by unfold Addr.add; split <;> simp_all
    rw [hadd]
    rw [List.getElem?_map] at hu
    obtain ⟨y, hy1, rfl⟩ := Option.map_eq_some_iff.1 hu
    obtain ⟨hj, rfl⟩ := List.getElem?_eq_some_iff.1 hy1
    exact hy j hj
  · intro u hu
    obtain ⟨y, _, rfl⟩ := List.mem_map.1 hu
    rfl
  · intro g cap w' h1 h2 h3 h4
    refine h g cap w' ?_ ?_
    · unfold Ows
      simpa using h1
    · exact ⟨h2.os, h2.tape, h2.output, h2.size, fun k hk hn => h2.block k hk (fun e => hn e.symm)⟩

theorem ows_lit (W : World) (B g : Nat) (hg : g = W.heap.size) (hB : B ≤ g) : Ows (W.alloc (.cells #[] 3)) B (.slice (some ⟨g, 0, none⟩) 0 0) [] := by
  subst hg; exact Ows.lit W B hB

theorem get3 (x y z : Int) (W : World) (g t : Nat) (k : Nat) (hk : k ≤ 3) (hg : g = W.heap.size) (j : Nat) (h : j < (([x, y, z] : List Int).take k).length) (o : Obj) :
    ((W.alloc (.cells #[.int .i64 x, .int .i64 y, .int .i64 z] t)).alloc o).cell? ⟨g, j, none⟩ = some (.int .i64 (([x, y, z] : List Int).take k)[j]) := by
  subst hg
  rw [World.cell?_alloc_old _ _ _ (by simp), World.cell?_alloc_new]
  have h3 : j < 3 := by simp at h; omega
  rcases j with _ | _ | _ | j
  · simp
  · simp
  · simp
  · omega

set_option maxHeartbeats 1000000 in
theorem iParts (n : Nd) (w : World) :
    Calls Try.prog 91 #[.agg #[.int .i64 n.op, .int .i64 n.w, .int .i64 n.k, .int .i64 n.a, .int .i64 n.b, .int .i64 n.c]] w fun e w' => (∃ a c, e = .returned (.slice a (parts n).length c) ∧ WInts w' w.heap.size a (parts n)) ∧ Below w.heap.size w w' := by
  have HP : Hid (parts n = ([n.a, n.b, n.c] : List Int).take (cnt n.op)) := by
    show parts n = _
    unfold parts cnt; split
    · rfl
    · split
      · rfl
      · split <;> rfl
  have hc3 := cnt_le n.op
  by_cases h1 : cnt n.op = 0
  · go_enter Try.func91, Try.ntmps91
    go_wp2_with (go_at_call 90; refine (iCount _ _).mono ?_; rintro e w' ⟨rfl, rfl⟩; rw [h1])
    go_ret
    rw [HP.out, h1]
    exact ⟨⟨_, _, rfl, Nat.zero_le _, .inl rfl⟩, (((Below.refl _ _).alloc (Nat.le_refl _) _).alloc (by simp) _).alloc (by simp; omega) _⟩
  · obtain ⟨l3, hl3⟩ : ∃ l3 : List Int, l3 = ([n.a, n.b, n.c] : List Int).take (cnt n.op) := ⟨_, rfl⟩
    have HL3 : Hid (l3 = ([n.a, n.b, n.c] : List Int).take (cnt n.op)) := hl3
    have hlen : l3.length = cnt n.op := by rw [hl3, List.length_take]; simp; omega
    have HLN : Hid (l3.length = cnt n.op) := hlen
    have hcz : (cnt n.op : Int) ≤ 3 := by omega
    clear hl3 hlen
    go_enter Try.func91, Try.ntmps91
    go_wp2_with (first | (go_at_call 90; refine (iCount _ _).mono ?_; rintro e w' ⟨rfl, rfl⟩) | (at_builtin; go_must (refine app_ints _ rfl _ _ rfl w.heap.size (.slice (some ⟨w.heap.size + 1 + 1, 0, none⟩) 0 0) [] l3 (w.heap.size + 1) 3 rfl (by rw [HLN.out]; rfl) (fun j h => by have h9 := HL3.out; subst h9; exact get3 _ _ _ _ _ _ _ hc3 (by simp) _ h _) (by rw [HLN.out]; omega) (ows_lit _ _ _ (by simp) (by omega)) (by simp; omega) (by rw [HLN.out]; simp; omega) ?_; intro g cp w3 ho3 hk3)))
    have HO3 : Hid (Ows w3 w.heap.size (.slice (some ⟨g, 0, none⟩) (([] : List Int).length + l3.length) cp) ([] ++ l3)) := ho3
    have HK3 := hk3.below (B := w.heap.size) (fun k hk => by cases hk; show w.heap.size ≤ w.heap.size + 1 + 1; omega) (by simp; omega)
    have HB3 : Hid (Below w.heap.size w w3) := ((((Below.refl _ _).alloc (Nat.le_refl _) _).alloc (by simp) _).alloc (by simp; omega) _).trans HK3
    clear ho3 hk3 HK3
    go_wp2
    go_ret
    obtain ⟨a9, c9, hv9, hw9⟩ := HO3.out.form
    simp only [List.nil_append, List.length_nil, Nat.zero_add] at hv9 hw9
    rw [HP.out, ← HL3.out]
    cases hv9
    refine ⟨⟨some ⟨g, 0, none⟩, cp, ?_, hw9⟩, HB3.out⟩
    simp

end Go.Proofs.Ytjhhmnelddidjaa.Pg2
