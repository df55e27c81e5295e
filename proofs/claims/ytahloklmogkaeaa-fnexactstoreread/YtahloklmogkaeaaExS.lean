/-
  Chapter 11's functions: program and specification answer the same.
-/
import Derived.Test.YtahloklmogkaeaaSpT
import Derived.Test.YtahloklmogkaeaaLawT
namespace Go.Proofs.Ytahloklmogkaeaa.ExS
open Go.ChangeShapes Go.WideShapes Go.ChangeAt Go.RowKit Go.Shelf Go.Joins OkA Big Fl ImplB ImplF ImplS _root_.Go.Proofs.Ytahloklmogkaeaa.Own ImplT ImplU SpecA SpecB SpecC SpecD SpecW Ok2 Pl ImplL Kp StA StB StD StF StG SpS SpT LawsA LawsB LawsE LawV LawI LawS LawT OpenF
theorem ok2 (fa : Option Addr) (fc : Nat) (bs : List Bk) (da : Option Addr) (dc : Nat) (dk : List Int) (w : World) (h : SAt w fa bs da dk) (hm : bs.length ≤ 1048576) (hm2 : dk.length ≤ 1048576) :
    Calls Try.prog 27 #[.agg #[.slice fa bs.length fc, .slice da dk.length dc]] w fun e w' => e = .returned (.bool (stB bs dk)) ∧ Below w.heap.size w w' := by
  rw [← st_eq]; exact implOk_any fa fc bs da dc dk w h (by omega) (by omega)
theorem read2 (fa : Option Addr) (fc : Nat) (bs : List Bk) (da : Option Addr) (dc : Nat) (dk : List Int) (addr : Int) (w : World) (h : SAt w fa bs da dk) (hm : bs.length ≤ 1048576) (hm2 : dk.length ≤ 1048576) :
    Calls Try.prog 29 #[.agg #[.slice fa bs.length fc, .slice da dk.length dc], .int .i64 addr] w fun e w' => e = .returned (.int .i64 (rdS bs dk addr)) ∧ Below w.heap.size w w' := by
  rw [← rd_eq]; exact implRead_any fa fc bs da dc dk addr w h (by omega) (by omega)
theorem all2 (fa : Option Addr) (fc : Nat) (bs : List Bk) (da : Option Addr) (dc : Nat) (dk : List Int) (w : World) (h : SAt w fa bs da dk) (hm : bs.length ≤ 1048576) (hm2 : dk.length ≤ 1048576) :
    Calls Try.prog 31 #[.agg #[.slice fa bs.length fc, .slice da dk.length dc]] w fun e w' => IsPost w (alS bs dk) e w' := by
  rw [← al_eq]; exact implAll_any fa fc bs da dc dk w h (by omega) (by omega)
theorem dirty2 (fa : Option Addr) (fc : Nat) (bs : List Bk) (da : Option Addr) (dc : Nat) (dk : List Int) (w : World) (h : SAt w fa bs da dk) (hm : bs.length ≤ 1048576) (hm2 : dk.length ≤ 1048576) :
    Calls Try.prog 36 #[.agg #[.slice fa bs.length fc, .slice da dk.length dc]] w fun e w' => IsPost w (dyS bs dk) e w' := by
  rw [← dy_eq]; exact implDirty_any fa fc bs da dc dk w h (by omega) (by omega)
theorem al_len (bs : List Bk) (dk : List Int) : (alS bs dk).length ≤ 6 := by unfold alS; split; rw [alK_len]; exact Nat.le_refl _; simp
theorem dy_len (bs : List Bk) (dk : List Int) : (dyS bs dk).length ≤ 6 := by unfold dyS; split; exact dyK_len _ _; simp
end Go.Proofs.Ytahloklmogkaeaa.ExS
