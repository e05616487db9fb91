/- '==' on atoms. No conditions. -/
import Derived.Test.YtkjcnpckajpogaaDoorKi
import Derived.Laws.StructEq
open Go.RowKit
set_option maxRecDepth 100000
namespace Go.Proofs.YtkjcnpckajpogaaDoor
def atV (p n : ByteArray) (k : Int) : Value := .agg #[.string p, .string n, .int .i64 k]
def eqA (p n : ByteArray) (k : Int) (p' n' : ByteArray) (k' : Int) : Bool := decide (p = p' ∧ n = n' ∧ k = k')
theorem beq_dec (a b : ByteArray) : (a.toList == b.toList) = decide (a = b) := by
  by_cases h : a = b
  · subst h; simp
  · rw [str_ne h, decide_eq_false h]
theorem eqA_beq (p n : ByteArray) (k : Int) (p' n' : ByteArray) (k' : Int) : eqA p n k p' n' k' = ((p.toList == p'.toList) && ((n.toList == n'.toList) && (k == k'))) := by
  unfold eqA
  rw [beq_dec, beq_dec, Bool.eq_iff_iff]; simp
theorem aeq_in (w : World) (p n : ByteArray) (k : Int) (p' n' : ByteArray) (k' : Int) : (Op.equalIn 10000 24 (.agg #[.string p, .string n, .int .i64 k]) (.agg #[.string p', .string n', .int .i64 k'])).run Tryd.prog w = .ok (eqA p n k p' n' k') w := by
  rw [eqA_beq, run_equalIn_agg w 9999 _ _ _ (by kernel_rfl) (by kernel_rfl)]
  have hf : (Tryd.prog.fieldsOf 24).toList.map (fun f => (f.name, f.type, f.offset)) = [("Prefix", 9, 0), ("Name", 9, 1), ("Power", 3, 2)] := by kernel_rfl
  obtain ⟨fs, hfs⟩ : ∃ fs, (Tryd.prog.fieldsOf 24).toList = fs := ⟨_, rfl⟩
  rw [hfs] at hf ⊢
  match fs, hf with
  | [f0, f1, f2], hf =>
    simp at hf
    obtain ⟨⟨a0, b0, c0⟩, ⟨a1, b1, c1⟩, a2, b2, c2⟩ := hf
    simp [Op.eqFields, a0, a1, a2, b0, b1, b2, c0, c1, c2, part, isAgg, run_underlying Tryd.underlying9, run_underlying Tryd.underlying3, run_equalIn_string _ _ _ _ _ Tryd.underlying9, run_equalIn_int _ _ _ _ _ _ _ Tryd.underlying3, Result.andThen]
    by_cases h1 : p.toList = p'.toList <;> by_cases h2 : n.toList = n'.toList <;> by_cases h3 : k = k' <;> simp [h1, h2, h3]
theorem aeq (w : World) (p n : ByteArray) (k : Int) (p' n' : ByteArray) (k' : Int) : (binOp .eql 24 (.agg #[.string p, .string n, .int .i64 k]) (.agg #[.string p', .string n', .int .i64 k'])).run Tryd.prog w = .ok (.bool (eqA p n k p' n' k')) w := by
  rw [run_eql_struct, aeq_in]; rfl
theorem aneq (w : World) (p n : ByteArray) (k : Int) (p' n' : ByteArray) (k' : Int) : (binOp .neq 24 (.agg #[.string p, .string n, .int .i64 k]) (.agg #[.string p', .string n', .int .i64 k'])).run Tryd.prog w = .ok (.bool (!(eqA p n k p' n' k'))) w := by
  rw [run_neq_struct, aeq_in]; rfl
theorem req_in (w : World) (p n : ByteArray) (k : Int) (p' n' : ByteArray) (k' : Int) : (Op.equalIn 10000 35 (.agg #[.string p, .string n, .int .i64 k]) (.agg #[.string p', .string n', .int .i64 k'])).run Tryd.prog w = .ok (eqA p n k p' n' k') w := by
  rw [eqA_beq, run_equalIn_agg w 9999 _ _ _ (by kernel_rfl) (by kernel_rfl)]
  have hf : (Tryd.prog.fieldsOf 35).toList.map (fun f => (f.name, f.type, f.offset)) = [("Prefix", 9, 0), ("Name", 9, 1), ("Power", 3, 2)] := by kernel_rfl
  obtain ⟨fs, hfs⟩ : ∃ fs, (Tryd.prog.fieldsOf 35).toList = fs := ⟨_, rfl⟩
  rw [hfs] at hf ⊢
  match fs, hf with
  | [f0, f1, f2], hf =>
    simp at hf
    obtain ⟨⟨a0, b0, c0⟩, ⟨a1, b1, c1⟩, a2, b2, c2⟩ := hf
    simp [Op.eqFields, a0, a1, a2, b0, b1, b2, c0, c1, c2, part, isAgg, run_underlying Tryd.underlying9, run_underlying Tryd.underlying3, run_equalIn_string _ _ _ _ _ Tryd.underlying9, run_equalIn_int _ _ _ _ _ _ _ Tryd.underlying3, Result.andThen]
    by_cases h1 : p.toList = p'.toList <;> by_cases h2 : n.toList = n'.toList <;> by_cases h3 : k = k' <;> simp [h1, h2, h3]
theorem req (w : World) (p n : ByteArray) (k : Int) (p' n' : ByteArray) (k' : Int) : (binOp .eql 35 (.agg #[.string p, .string n, .int .i64 k]) (.agg #[.string p', .string n', .int .i64 k'])).run Tryd.prog w = .ok (.bool (eqA p n k p' n' k')) w := by
  rw [run_eql_struct, req_in]; rfl
theorem rneq (w : World) (p n : ByteArray) (k : Int) (p' n' : ByteArray) (k' : Int) : (binOp .neq 35 (.agg #[.string p, .string n, .int .i64 k]) (.agg #[.string p', .string n', .int .i64 k'])).run Tryd.prog w = .ok (.bool (!(eqA p n k p' n' k'))) w := by
  rw [run_neq_struct, req_in]; rfl
end Go.Proofs.YtkjcnpckajpogaaDoor
