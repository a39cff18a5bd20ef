/-
  A load of one cell in a quiet walk.
-/
import Derived.Test.YtlfmooihcigolaaGreatDoorMab
set_option maxRecDepth 100000
set_option maxHeartbeats 8000000
namespace Go.Proofs.YtlfmooihcigolaaGreatDoor
open Go.RowKit
theorem q_cell {P:Program} {ops:Array Oper} {C:World → Prop} {Q:Act → Prop} {a:Act} {o:Oper} {rest:List Oper} (ty:TypeId) (x:Operand) (ho:o.op = .load ty x) (hw:Region.wanted o (yielded ops a.tmps) = true) (ad:Addr) (v:Value) (hx:a.eval x = .pointer (some ad))
  (hrun:∀ w,C w → (Instr.loadAt ty (.pointer (some ad))).run P w = .ok v w) (hk:wpQuiet P ops C Q rest (a.put o.dst v)):wpQuiet P ops C Q (o :: rest) a:=by
 refine BigFrame.wpQuiet_want hw fun K hK=>⟨v,fun w hc=>?_,hK _ hk⟩
 have h:(execOp a.eval o).run P w = .ok (.value v) w:=by
  unfold execOp
  simp [ho,hx,hrun w hc,Result.andThen]
 unfold Oper.quietAt
 rw [h]
 exact ⟨rfl,by simp⟩
end Go.Proofs.YtlfmooihcigolaaGreatDoor
