/-
  A machine of values: the rules by which it is reckoned. No program is named here.
-/
import Derived.Test.YthifckknijdgfaaAm17
import Derived.IntWalk
namespace Go.Proofs.Ythifckknijdgfaa.am
open Go.ChangeShapes Go.WideShapes Go.ChangeAt Go.RowKit
attribute [simp] AR_nil AR_cons AR_gard GX_yes GX_not ARD_nil ARD_cons ARD_gard GXD_yes GXD_not OpA_some OpD_some AX_move AX_assign AX_pick AX_alloc AX_box AX_build AX_buildSlice AX_insert AX_load AX_store AX_ready AX_waits AX_nilCheck AX_binOp AX_unOp AX_convert AX_sliceToArrayPointer AX_makeInterface AX_makeFunc AX_makeMap AX_makeChan AX_makeSlice AX_slice AX_fieldAddr AX_field AX_indexAddr AX_index AX_lookup AX_mapUpdate AX_mapEntry AX_entryStore AX_range AX_next AX_entry AX_typeAssert AX_extract AX_panic AX_builtin AXD_move AXD_assign AXD_pick AXD_alloc AXD_box AXD_build AXD_buildSlice AXD_insert AXD_load AXD_store AXD_ready AXD_waits AXD_nilCheck AXD_binOp AXD_unOp AXD_convert AXD_sliceToArrayPointer AXD_makeInterface AXD_makeFunc AXD_makeMap AXD_makeChan AXD_makeSlice AXD_slice AXD_fieldAddr AXD_field AXD_indexAddr AXD_index AXD_lookup AXD_mapUpdate AXD_mapEntry AXD_entryStore AXD_range AXD_next AXD_entry AXD_typeAssert AXD_extract AXD_panic AXD_builtin gd aop evA lk hlk St.put St.wr dok cellsT constAV plain vload vstore vfieldAddr vfield vindexAddr vidx vindex vslice vbin veqF veq isEqOp pbin pint pstr vun vconv vlen vbuiltin vappend vbuildSlice vbuild fillA fillS pureT pureC setSeg asSl asInt? bnd oav vext vmin vnil capOf capV entry idxA idx mkSt fitVs fitV fitT fitC fitCs fitP_sn fitP_sl fitP_ss fitP_l fitP_n fitQs_nil fitQs_cons fitQs_nc fitQs_cn fitQ_nil fitQ_cons fitQ_nc fitQ_cn fitTs fitCap fitCaps fitO covO covT
theorem i64i (z : Int) (h1 : -9223372036854775808 ≤ z) (h2 : z ≤ 9223372036854775807) : IntKind.i64.wrap z = z := IntWalk.i64_in _ (by omega)
end Go.Proofs.Ythifckknijdgfaa.am
