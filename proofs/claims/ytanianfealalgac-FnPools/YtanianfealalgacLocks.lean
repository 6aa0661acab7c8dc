/- The numbers under which this seat's program holds sync.Mutex's functions and types, and that it holds them. -/
import Derived.Test.YtanianfealalgacProg
import Derived.Conc.MuLone
import Derived.KernelRfl
namespace Go.Proofs.Ytanianfealalgac
abbrev Try.muLink : Go.Conc.Locks.MuLink := { lock := 26, unlock := 27, ilock := 41, iunlock := 42, lockSlow := 57, unlockSlow := 60, disable := 53, enable := 55, acquire := 56, relMerge := 58, cas32 := 54, add32 := 59, tMutex := 44, tIMutex := 42, tPMutex := 76, tPIMutex := 89, tPI32 := 91, tUP := 93, tNoCopy := 39, tU32 := 40 }
theorem Try.muLib : Go.Conc.Locks.MuLib Try.prog Try.muLink :=
  ⟨Try.func26, Try.func27, Try.func41, Try.func42, Try.func53, Try.func55, Try.func56, Try.func58, Try.func54, Try.func59, Try.underlying42, Try.runUnderlying42, Try.sizeOf42, Try.isAgg42, Try.zeroValue42, Try.underlying44, Try.runUnderlying44, Try.sizeOf44, Try.isAgg44, Try.zeroValue44, Try.underlying76, Try.runUnderlying76, Try.sizeOf76, Try.isAgg76, Try.zeroValue76, Try.underlying89, Try.runUnderlying89, Try.sizeOf89, Try.isAgg89, Try.zeroValue89, Try.underlying91, Try.runUnderlying91, Try.sizeOf91, Try.isAgg91, Try.zeroValue91, Try.underlying93, Try.runUnderlying93, Try.sizeOf93, Try.isAgg93, Try.zeroValue93, Try.underlying39, Try.runUnderlying39, Try.sizeOf39, Try.isAgg39, Try.zeroValue39, Try.underlying21, Try.runUnderlying21, Try.sizeOf21, Try.isAgg21, Try.zeroValue21, (by kernel_rfl)⟩
end Go.Proofs.Ytanianfealalgac
