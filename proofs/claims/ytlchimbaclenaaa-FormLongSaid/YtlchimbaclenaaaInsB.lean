/-
  Contracts of ins: an instruction with those fields alone that its kind has.
-/
import Derived.Test.YtlchimbaclenaaaInsA
import Derived.OwnWalk
import Derived.Laws.ResultCell
namespace Go.Proofs.Ytlchimbaclenaaa.ins
open Go.RowKit Go.Proofs.Ytlchimbaclenaaa.mem Go.Proofs.Ytlchimbaclenaaa.kit
set_option linter.unusedVariables false

def In.arr (i : In) : Array Value := #[.int .u8 i.op, .bool i.nar, .int .i64 i.dst, .int .i64 i.src, .bool i.use, .int .i64 i.off, .int .i64 i.imm, .int .i64 i.siz]
theorem ins_size : (Try.prog.info? 34).map (·.size) = some 8 := by kernel_rfl
theorem new1 (w : World) (a : Obj) : New w (w.alloc a) := (new_refl w).alloc (Nat.le_refl _) a
theorem new2 (w : World) (a b : Obj) : New w ((w.alloc a).alloc b) := (new1 w a).alloc (by simp) b
theorem new3 (w : World) (a b c : Obj) : New w (((w.alloc a).alloc b).alloc c) := (new2 w a b).alloc (by simp; omega) c
theorem new_row {w w' : World} (h : New w w') (b : Nat) (cs : Array Value) (hb : w.heap.size ≤ b) : New w (w'.setRow b cs) :=
  ⟨h.os, h.tape, h.output, by simpa using h.size, fun k hk => (setRow_other w' b k cs (by omega)).trans (h.block k hk)⟩

set_option maxRecDepth 100000 in
theorem only_147i (op : Int) (nar : Bool) (dst src : Int) (off imm siz : Int) (w : World) :
    Calls Try.prog 42 #[.int .u8 147, .agg #[.int .u8 op, .bool nar, .int .i64 dst, .int .i64 src, .bool true, .int .i64 off, .int .i64 imm, .int .i64 siz]] w fun e w' =>
      e = .returned (.agg #[.int .u8 op, .bool nar, .int .i64 dst, .int .i64 0, .bool true, .int .i64 0, .int .i64 imm, .int .i64 0]) ∧ New w w' := by
  have b6 : has 147 6 = true := by decide +kernel
  have b16 : has 147 16 = true := by decide +kernel
  have b24 : has 147 24 = true := by decide +kernel
  have b32 : has 147 32 = false := by decide +kernel
  have b64 : has 147 64 = false := by decide +kernel
  have b128 : has 147 128 = true := by decide +kernel
  have ei := ins_size
  go_enter Try.func42, Try.ntmps42
  go_wp2_with (go_at_call 41; refine (any_any _ _ _).mono ?_; rintro e w1 ⟨rfl, rfl⟩)
  go_region
  go_wp2_with (go_at_call 41; refine (any_any _ _ _).mono ?_; rintro e w1 ⟨rfl, rfl⟩)
  refine bodyPost_ret (v := .agg #[.int .u8 op, .bool nar, .int .i64 dst, .int .i64 0, .bool true, .int .i64 0, .int .i64 imm, .int .i64 0]) (by simp [results, Try.results42, go_sem]) rfl ⟨rfl, ?_⟩
  exact Below.drew (new3 w _ _ _)

set_option maxRecDepth 100000 in
theorem only_147r (op : Int) (nar : Bool) (dst src : Int) (off imm siz : Int) (w : World) :
    Calls Try.prog 42 #[.int .u8 147, .agg #[.int .u8 op, .bool nar, .int .i64 dst, .int .i64 src, .bool false, .int .i64 off, .int .i64 imm, .int .i64 siz]] w fun e w' =>
      e = .returned (.agg #[.int .u8 op, .bool nar, .int .i64 dst, .int .i64 src, .bool false, .int .i64 0, .int .i64 0, .int .i64 0]) ∧ New w w' := by
  have b6 : has 147 6 = true := by decide +kernel
  have b16 : has 147 16 = true := by decide +kernel
  have b24 : has 147 24 = true := by decide +kernel
  have b32 : has 147 32 = false := by decide +kernel
  have b64 : has 147 64 = false := by decide +kernel
  have b128 : has 147 128 = true := by decide +kernel
  have ei := ins_size
  go_enter Try.func42, Try.ntmps42
  go_wp2_with (go_at_call 41; refine (any_any _ _ _).mono ?_; rintro e w1 ⟨rfl, rfl⟩)
  refine bodyPost_ret (v := .agg #[.int .u8 op, .bool nar, .int .i64 dst, .int .i64 src, .bool false, .int .i64 0, .int .i64 0, .int .i64 0]) (by simp [results, Try.results42, go_sem]) rfl ⟨rfl, ?_⟩
  exact new3 w _ _ _

set_option maxRecDepth 100000 in
theorem only_131 (op : Int) (nar : Bool) (dst src : Int) (use : Bool) (off imm siz : Int) (w : World) :
    Calls Try.prog 42 #[.int .u8 131, .agg #[.int .u8 op, .bool nar, .int .i64 dst, .int .i64 src, .bool use, .int .i64 off, .int .i64 imm, .int .i64 siz]] w fun e w' =>
      e = .returned (.agg #[.int .u8 op, .bool nar, .int .i64 dst, .int .i64 0, .bool false, .int .i64 0, .int .i64 0, .int .i64 0]) ∧ New w w' := by
  have b6 : has 131 6 = true := by decide +kernel
  have b16 : has 131 16 = false := by decide +kernel
  have b24 : has 131 24 = false := by decide +kernel
  have b32 : has 131 32 = false := by decide +kernel
  have b64 : has 131 64 = false := by decide +kernel
  have b128 : has 131 128 = true := by decide +kernel
  have ei := ins_size
  go_enter Try.func42, Try.ntmps42
  go_wp2_with (go_at_call 41; refine (any_any _ _ _).mono ?_; rintro e w1 ⟨rfl, rfl⟩)
  refine bodyPost_ret (v := .agg #[.int .u8 op, .bool nar, .int .i64 dst, .int .i64 0, .bool false, .int .i64 0, .int .i64 0, .int .i64 0]) (by simp [results, Try.results42, go_sem]) rfl ⟨rfl, ?_⟩
  exact new3 w _ _ _

set_option maxRecDepth 100000 in
theorem only_107 (op : Int) (nar : Bool) (dst src : Int) (use : Bool) (off imm siz : Int) (w : World) :
    Calls Try.prog 42 #[.int .u8 107, .agg #[.int .u8 op, .bool nar, .int .i64 dst, .int .i64 src, .bool use, .int .i64 off, .int .i64 imm, .int .i64 siz]] w fun e w' =>
      e = .returned (.agg #[.int .u8 op, .bool false, .int .i64 dst, .int .i64 src, .bool false, .int .i64 off, .int .i64 0, .int .i64 siz]) ∧ New w w' := by
  have b6 : has 107 6 = true := by decide +kernel
  have b16 : has 107 16 = false := by decide +kernel
  have b24 : has 107 24 = true := by decide +kernel
  have b32 : has 107 32 = true := by decide +kernel
  have b64 : has 107 64 = true := by decide +kernel
  have b128 : has 107 128 = false := by decide +kernel
  have ei := ins_size
  go_enter Try.func42, Try.ntmps42
  go_wp2_with (go_at_call 41; refine (any_any _ _ _).mono ?_; rintro e w1 ⟨rfl, rfl⟩)
  refine bodyPost_ret (v := .agg #[.int .u8 op, .bool false, .int .i64 dst, .int .i64 src, .bool false, .int .i64 off, .int .i64 0, .int .i64 siz]) (by simp [results, Try.results42, go_sem]) rfl ⟨rfl, ?_⟩
  exact new3 w _ _ _

set_option maxRecDepth 100000 in
theorem only_117i (op : Int) (nar : Bool) (dst src : Int) (off imm siz : Int) (w : World) :
    Calls Try.prog 42 #[.int .u8 117, .agg #[.int .u8 op, .bool nar, .int .i64 dst, .int .i64 src, .bool true, .int .i64 off, .int .i64 imm, .int .i64 siz]] w fun e w' =>
      e = .returned (.agg #[.int .u8 op, .bool false, .int .i64 dst, .int .i64 0, .bool true, .int .i64 off, .int .i64 imm, .int .i64 siz]) ∧ New w w' := by
  have b6 : has 117 6 = true := by decide +kernel
  have b16 : has 117 16 = true := by decide +kernel
  have b24 : has 117 24 = true := by decide +kernel
  have b32 : has 117 32 = true := by decide +kernel
  have b64 : has 117 64 = true := by decide +kernel
  have b128 : has 117 128 = false := by decide +kernel
  have ei := ins_size
  go_enter Try.func42, Try.ntmps42
  go_wp2_with (go_at_call 41; refine (any_any _ _ _).mono ?_; rintro e w1 ⟨rfl, rfl⟩)
  go_region
  go_wp2_with (go_at_call 41; refine (any_any _ _ _).mono ?_; rintro e w1 ⟨rfl, rfl⟩)
  refine bodyPost_ret (v := .agg #[.int .u8 op, .bool false, .int .i64 dst, .int .i64 0, .bool true, .int .i64 off, .int .i64 imm, .int .i64 siz]) (by simp [results, Try.results42, go_sem]) rfl ⟨rfl, ?_⟩
  exact Below.drew (new3 w _ _ _)

set_option maxRecDepth 100000 in
theorem only_117r (op : Int) (nar : Bool) (dst src : Int) (off imm siz : Int) (w : World) :
    Calls Try.prog 42 #[.int .u8 117, .agg #[.int .u8 op, .bool nar, .int .i64 dst, .int .i64 src, .bool false, .int .i64 off, .int .i64 imm, .int .i64 siz]] w fun e w' =>
      e = .returned (.agg #[.int .u8 op, .bool false, .int .i64 dst, .int .i64 src, .bool false, .int .i64 off, .int .i64 0, .int .i64 siz]) ∧ New w w' := by
  have b6 : has 117 6 = true := by decide +kernel
  have b16 : has 117 16 = true := by decide +kernel
  have b24 : has 117 24 = true := by decide +kernel
  have b32 : has 117 32 = true := by decide +kernel
  have b64 : has 117 64 = true := by decide +kernel
  have b128 : has 117 128 = false := by decide +kernel
  have ei := ins_size
  go_enter Try.func42, Try.ntmps42
  go_wp2_with (go_at_call 41; refine (any_any _ _ _).mono ?_; rintro e w1 ⟨rfl, rfl⟩)
  refine bodyPost_ret (v := .agg #[.int .u8 op, .bool false, .int .i64 dst, .int .i64 src, .bool false, .int .i64 off, .int .i64 0, .int .i64 siz]) (by simp [results, Try.results42, go_sem]) rfl ⟨rfl, ?_⟩
  exact new3 w _ _ _

set_option maxRecDepth 100000 in
theorem only_33 (op : Int) (nar : Bool) (dst src : Int) (use : Bool) (off imm siz : Int) (w : World) :
    Calls Try.prog 42 #[.int .u8 33, .agg #[.int .u8 op, .bool nar, .int .i64 dst, .int .i64 src, .bool use, .int .i64 off, .int .i64 imm, .int .i64 siz]] w fun e w' =>
      e = .returned (.agg #[.int .u8 op, .bool false, .int .i64 0, .int .i64 0, .bool false, .int .i64 off, .int .i64 0, .int .i64 0]) ∧ New w w' := by
  have b6 : has 33 6 = false := by decide +kernel
  have b16 : has 33 16 = false := by decide +kernel
  have b24 : has 33 24 = false := by decide +kernel
  have b32 : has 33 32 = true := by decide +kernel
  have b64 : has 33 64 = false := by decide +kernel
  have b128 : has 33 128 = false := by decide +kernel
  have ei := ins_size
  go_enter Try.func42, Try.ntmps42
  go_wp2_with (go_at_call 41; refine (any_any _ _ _).mono ?_; rintro e w1 ⟨rfl, rfl⟩)
  refine bodyPost_ret (v := .agg #[.int .u8 op, .bool false, .int .i64 0, .int .i64 0, .bool false, .int .i64 off, .int .i64 0, .int .i64 0]) (by simp [results, Try.results42, go_sem]) rfl ⟨rfl, ?_⟩
  exact new3 w _ _ _

set_option maxRecDepth 100000 in
theorem only_181i (op : Int) (nar : Bool) (dst src : Int) (off imm siz : Int) (w : World) :
    Calls Try.prog 42 #[.int .u8 181, .agg #[.int .u8 op, .bool nar, .int .i64 dst, .int .i64 src, .bool true, .int .i64 off, .int .i64 imm, .int .i64 siz]] w fun e w' =>
      e = .returned (.agg #[.int .u8 op, .bool nar, .int .i64 dst, .int .i64 0, .bool true, .int .i64 off, .int .i64 imm, .int .i64 0]) ∧ New w w' := by
  have b6 : has 181 6 = true := by decide +kernel
  have b16 : has 181 16 = true := by decide +kernel
  have b24 : has 181 24 = true := by decide +kernel
  have b32 : has 181 32 = true := by decide +kernel
  have b64 : has 181 64 = false := by decide +kernel
  have b128 : has 181 128 = true := by decide +kernel
  have ei := ins_size
  go_enter Try.func42, Try.ntmps42
  go_wp2_with (go_at_call 41; refine (any_any _ _ _).mono ?_; rintro e w1 ⟨rfl, rfl⟩)
  go_region
  go_wp2_with (go_at_call 41; refine (any_any _ _ _).mono ?_; rintro e w1 ⟨rfl, rfl⟩)
  refine bodyPost_ret (v := .agg #[.int .u8 op, .bool nar, .int .i64 dst, .int .i64 0, .bool true, .int .i64 off, .int .i64 imm, .int .i64 0]) (by simp [results, Try.results42, go_sem]) rfl ⟨rfl, ?_⟩
  exact Below.drew (new3 w _ _ _)

set_option maxRecDepth 100000 in
theorem only_181r (op : Int) (nar : Bool) (dst src : Int) (off imm siz : Int) (w : World) :
    Calls Try.prog 42 #[.int .u8 181, .agg #[.int .u8 op, .bool nar, .int .i64 dst, .int .i64 src, .bool false, .int .i64 off, .int .i64 imm, .int .i64 siz]] w fun e w' =>
      e = .returned (.agg #[.int .u8 op, .bool nar, .int .i64 dst, .int .i64 src, .bool false, .int .i64 off, .int .i64 0, .int .i64 0]) ∧ New w w' := by
  have b6 : has 181 6 = true := by decide +kernel
  have b16 : has 181 16 = true := by decide +kernel
  have b24 : has 181 24 = true := by decide +kernel
  have b32 : has 181 32 = true := by decide +kernel
  have b64 : has 181 64 = false := by decide +kernel
  have b128 : has 181 128 = true := by decide +kernel
  have ei := ins_size
  go_enter Try.func42, Try.ntmps42
  go_wp2_with (go_at_call 41; refine (any_any _ _ _).mono ?_; rintro e w1 ⟨rfl, rfl⟩)
  refine bodyPost_ret (v := .agg #[.int .u8 op, .bool nar, .int .i64 dst, .int .i64 src, .bool false, .int .i64 off, .int .i64 0, .int .i64 0]) (by simp [results, Try.results42, go_sem]) rfl ⟨rfl, ?_⟩
  exact new3 w _ _ _

set_option maxRecDepth 100000 in
theorem only_1 (op : Int) (nar : Bool) (dst src : Int) (use : Bool) (off imm siz : Int) (w : World) :
    Calls Try.prog 42 #[.int .u8 1, .agg #[.int .u8 op, .bool nar, .int .i64 dst, .int .i64 src, .bool use, .int .i64 off, .int .i64 imm, .int .i64 siz]] w fun e w' =>
      e = .returned (.agg #[.int .u8 op, .bool false, .int .i64 0, .int .i64 0, .bool false, .int .i64 0, .int .i64 0, .int .i64 0]) ∧ New w w' := by
  have b6 : has 1 6 = false := by decide +kernel
  have b16 : has 1 16 = false := by decide +kernel
  have b24 : has 1 24 = false := by decide +kernel
  have b32 : has 1 32 = false := by decide +kernel
  have b64 : has 1 64 = false := by decide +kernel
  have b128 : has 1 128 = false := by decide +kernel
  have ei := ins_size
  go_enter Try.func42, Try.ntmps42
  go_wp2_with (go_at_call 41; refine (any_any _ _ _).mono ?_; rintro e w1 ⟨rfl, rfl⟩)
  refine bodyPost_ret (v := .agg #[.int .u8 op, .bool false, .int .i64 0, .int .i64 0, .bool false, .int .i64 0, .int .i64 0, .int .i64 0]) (by simp [results, Try.results42, go_sem]) rfl ⟨rfl, ?_⟩
  exact new3 w _ _ _
end Go.Proofs.Ytlchimbaclenaaa.ins
