import Derived.Test.YtippenbbibfmdabDoorW37
namespace Go.Proofs.YtippenbbibfmdabDoor
open Go.RowKit Go.Extern.Stop Go.Stop Go.Extern

theorem Tryd.set25 (ta b e : Addr) (old : Value) (W : World) (hb : W.cell? b = some (.pointer (some e))) (ht : W.cell? ta = some old) (hf : W.frozen? ta = false) :
    (ReflectliteValue.set #[.agg #[.pointer (some ⟨12, 42, none⟩), .pointer (some ta), .int .u64 406], .agg #[.pointer (some ⟨12, 42, none⟩), .pointer (some b), .int .u64 150]]).run Tryd.prog W
      = .ok (.tuple #[]) (W.setCell ta (.pointer (some e))) := by
  show Sem.run Tryd.prog (Bind.bind (ReflectliteValue.parts (.agg #[.pointer (some ⟨12, 42, none⟩), .pointer (some ta), .int .u64 406])) _) W = _
  rw [Sem.run_bind, Tryd.parts25a]
  simp only [Result.andThen, Sem.run_bind, Array.getLit]
  simp [Tryd.parts25, Result.andThen]
  simp [ReflectliteValue.flagAddr, loadVar, isAgg, underlying, Tryd.underlying42, hb, Result.andThen, Tryd.direct25, storeVar, Value.cells, storeCells, Addr.add]
  rw [run_store Tryd.prog W ta _ _ (by rfl)]
  simp [ht, hf]

end Go.Proofs.YtippenbbibfmdabDoor
