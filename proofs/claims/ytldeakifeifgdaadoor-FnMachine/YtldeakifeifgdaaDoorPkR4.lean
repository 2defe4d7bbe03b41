/- Small texts of mine, one behind the other. -/
import Derived.Maps.AppendAt
import Derived.Deep.RegionHeld
import Derived.Deep.CutBlock
import Derived.Test.YtldeakifeifgdaaDoorPkQb
import Derived.Test.YtldeakifeifgdaaDoorPkQk
import Derived.Test.YtldeakifeifgdaaDoorMx0
/- Flags of another list appended, at a step of a region that draws its order. -/
namespace Go.Proofs.YtldeakifeifgdaaDoor.Ap11
open Go.RowKit
open Nd0 Ap1
set_option linter.unusedVariables false

def bv (l : List Bool) : List Value := l.map fun x => .bool x
theorem bv_len (l : List Bool) : (bv l).length = l.length := by simp [bv]
theorem one_b (l : List Bool) : ∀ u ∈ bv l, u.oneCell' = true := by
  intro u hu
  obtain ⟨n, _, rfl⟩ := List.mem_map.1 hu
  rfl
theorem step_bs {ops : Array Oper} {o : Oper} {a : Act} {K : Act → World → Prop} {Q : Exit → Act → World → Prop} {E : Prop} (W : World) (hgd : o.guard = none) (s x : Operand)
    (ho : o.op = .call { callee := .builtin .append, args := #[s, x], argTypes := #[24, 24] })
    (B g cp gx ox cx : Nat) (l ys : List Bool) (hs : a.eval s = .slice (some ⟨g, 0, none⟩) l.length cp) (hx : a.eval x = .slice (some ⟨gx, ox, none⟩) ys.length cx)
    (hown : Owb W B (.slice (some ⟨g, 0, none⟩) l.length cp) l) (hy : ∀ j (h : j < ys.length), W.cell? ⟨gx, ox + j, none⟩ = some (.bool ys[j])) (hB : B ≤ W.heap.size) (hlen : l.length + ys.length ≤ 1048577) (L : List Bool) (hL : l ++ ys = L)
    (h : ∀ g' cp' w', Owb w' B (.slice (some ⟨g', 0, none⟩) L.length cp') L → Kept (fun k => k = g) W w' → (g' = g ∨ W.heap.size ≤ g') → K (a.put o.dst (.slice (some ⟨g', 0, none⟩) L.length cp')) w') :
    if Region.wanted o (yielded ops a.tmps) = true then Oper.wp Tryd.prog o a W K Q else E := by
  subst hL
  have hw : Region.wanted o (yielded ops a.tmps) = true := by simp [Region.wanted, hgd]
  rw [if_pos hw]
  obtain ⟨i, hi, hzz⟩ := Option.map_eq_some_iff.1 infoBool
  simp only [Prod.mk.injEq] at hzz
  obtain ⟨hz, hsz, hb⟩ := hzz
  obtain ⟨v', w', hr, h1, h2, h3, h4⟩ := run_append_own_at (P := Tryd.prog) W B 24 o.type 4 i _ 1 1 Tryd.underlying24 hi hz hsz hb rfl (by omega) _ l.length (bv l) hown ⟨gx, ox, none⟩ ys.length cx (bv ys) (by rw [bv_len]; omega) (fun j u hu => by
    have hj : j < ys.length := by have := (List.getElem?_eq_some_iff.1 hu).1; rw [bv_len] at this; exact this
    have hadd : (⟨gx, ox, none⟩ : Addr).add j = ⟨gx, ox + j, none⟩ := by unfold Addr.add; split <;> simp_all
    rw [hadd, hy j hj, ← hu]
    simp [bv, hj]) (one_b ys) (by unfold maxLen; omega) (by omega) hB
  have h5 : Owb w' B v' (l ++ ys) := by unfold Owb; rw [List.map_append, List.length_append]; exact h1
  have h6 : ∃ g' cp', v' = .slice (some ⟨g', 0, none⟩) (l ++ ys).length cp' := by
    rcases h5.2 with ⟨h0, _⟩ | ⟨g', cap', cur, he, _⟩
    · exact absurd (h3.1 h0).1 (by simp)
    · exact ⟨g', cap', he⟩
  obtain ⟨g', cp', rfl⟩ := h6
  have hK := h g' cp' w' h5 ⟨h2.os, h2.tape, h2.output, h2.size, fun k hk hn => h2.block k hk (fun e => hn (by simpa [Value.ownBlock] using e))⟩ (by
    rcases h4 with e | e
    · exact .inl (by simpa [Value.ownBlock] using e)
    · exact .inr (by have e' : g' = W.heap.size := (by simpa [Value.ownBlock] using e); omega))
  unfold Oper.wp execOp
  simp only [ho, resolve, invoke, builtin, Sem.run_bind, Sem.run_pure, Result.andThen_ok, List.map_toArray, List.map_cons, List.map_nil, hs, hx, hr]
  exact hK

end Go.Proofs.YtldeakifeifgdaaDoor.Ap11

/- The model's MachineStart. Written by tools/gen_sa0.py. -/
namespace Go.Proofs.YtldeakifeifgdaaDoor.Sa0
open Go.RowKit
open Ta0 Ta1 Ta2 Ta3 Tc2 Tc5 Td2 Td4 Mm0 Mm1 Mm2 Mx0 Dm1
open Nd0 (Kept Ints lt_of_cell)
open Nd6 (Bools BoolsIn)
open Ap1 (Owb)
open Ap11 (step_bs)
open Ss0 (bs bs_size)
open Ss1 (tl bs_tl)
set_option linter.unusedVariables false

/-- A machine at its start; none. -/
def startM (row : List Bool) (N : Int) (S : ByteArray) (room : Int) : Mc := ⟨row, N, S, room, [], -1, false, 0, 0, 0, []⟩
def zeroM : Mc := ⟨[], 0, ⟨#[]⟩, 0, [], 0, false, 0, 0, 0, []⟩

end Go.Proofs.YtldeakifeifgdaaDoor.Sa0
