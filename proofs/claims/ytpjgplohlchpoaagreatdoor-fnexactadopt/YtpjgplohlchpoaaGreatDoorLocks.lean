import Derived.Test.YtpjgplohlchpoaaGreatDoorProg
import Derived.Conc.RwLib
import Derived.Conc.MuData
import Derived.KernelRfl
namespace Go.Proofs.YtpjgplohlchpoaaGreatDoor
abbrev Tryz.muLink : Go.Conc.Locks.MuLink := { lock := 53, unlock := 54, ilock := 71, iunlock := 72, lockSlow := 87, unlockSlow := 90, disable := 83, enable := 85, acquire := 86, relMerge := 88, cas32 := 84, add32 := 89, tMutex := 92, tIMutex := 90, tPMutex := 121, tPIMutex := 142, tPI32 := 144, tUP := 108, tNoCopy := 87, tU32 := 88 }
theorem Tryz.muLib : Go.Conc.Locks.MuLib Tryz.prog Tryz.muLink :=
  ⟨Tryz.func53, Tryz.func54, Tryz.func71, Tryz.func72, Tryz.func83, Tryz.func85, Tryz.func86, Tryz.func88, Tryz.func84, Tryz.func89, Tryz.underlying90, Tryz.runUnderlying90, Tryz.sizeOf90, Tryz.isAgg90, Tryz.zeroValue90, Tryz.underlying92, Tryz.runUnderlying92, Tryz.sizeOf92, Tryz.isAgg92, Tryz.zeroValue92, Tryz.underlying121, Tryz.runUnderlying121, Tryz.sizeOf121, Tryz.isAgg121, Tryz.zeroValue121, Tryz.underlying142, Tryz.runUnderlying142, Tryz.sizeOf142, Tryz.isAgg142, Tryz.zeroValue142, Tryz.underlying144, Tryz.runUnderlying144, Tryz.sizeOf144, Tryz.isAgg144, Tryz.zeroValue144, Tryz.underlying108, Tryz.runUnderlying108, Tryz.sizeOf108, Tryz.isAgg108, Tryz.zeroValue108, Tryz.underlying87, Tryz.runUnderlying87, Tryz.sizeOf87, Tryz.isAgg87, Tryz.zeroValue87, Tryz.underlying21, Tryz.runUnderlying21, Tryz.sizeOf21, Tryz.isAgg21, Tryz.zeroValue21, (by kernel_rfl)⟩
theorem Tryz.muData : Go.Conc.Locks.MuData Tryz.prog Tryz.muLink := ⟨Tryz.underlying88, by kernel_rfl, by kernel_rfl, by kernel_rfl, by kernel_rfl, by kernel_rfl⟩
end Go.Proofs.YtpjgplohlchpoaaGreatDoor
