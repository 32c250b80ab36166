/- Disk4 -/
import Derived.Test.YtecomfhbdonkbaaGreatDoorGa
import Derived.Lib.BufferWrite
import Derived.Deep.AppendLies
import Derived.Deep.RegionLaw
namespace Go.Proofs.YtecomfhbdonkbaaGreatDoor
open Go.RowKit
set_option maxRecDepth 100000
section
structure Dsk where
  now : List ByteArray
  kept : List ByteArray
  since : List (Nat × ByteArray)
  ops : Nat
  stop : Nat
  dead : Bool
def strs (l : List ByteArray) : List Value := l.map Value.string
def wcells (l : List (Nat × ByteArray)) : List Value := l.flatMap fun p => [.int .i64 (p.1 : Int), .string p.2]
def sl (b n : Nat) : Value := .slice (some ⟨b, 0, none⟩) n n
def deadErr (s : Dsk) : Int := if s.dead then 13 else 0
def faultOf (s : Dsk) (at' : Int) : Int := if s.dead then 13 else if 0 ≤ at' ∧ at' < s.now.length then 0 else 1
def Dsk.step (s : Dsk) : Dsk := { s with ops := s.ops + 1, dead := s.stop == 1, stop := s.stop - 1 }
end
section
end
section
theorem Tryz.infoStr : (Tryz.prog.info? 9).map (fun i => (i.zero, i.size, i.bytes)) = some (some (.string ByteArray.empty), 1, 16) := by kernel_rfl
def Dsk.new (n : Nat) : Dsk := ⟨List.replicate n ByteArray.empty, List.replicate n ByteArray.empty, [], 0, 0, false⟩
def sizeOf' (x : Int) : Nat := (min (max x 1) 3000).toNat
theorem made_strs (n : Nat) : madeCells #[.string ByteArray.empty] (n * 1) = (strs (List.replicate n ByteArray.empty)).toArray := by
  apply Array.ext'
  rw [Nat.mul_one, toList_madeCells_one]
  simp [strs]
theorem run_make_strs (n : Nat) (m : Int) (hm : m = n) (hn : n ≤ 3000) (w : World) :
    (Instr.makeSlice 63 (.int .i64 m) (.int .i64 m)).run Tryz.prog w = .ok (.slice (some ⟨w.heap.size, 0, none⟩) n n) (w.alloc (.cells (strs (List.replicate n ByteArray.empty)).toArray 9)) := by
  subst hm
  obtain ⟨i0, hi, hz0, hz1, hz2⟩ := info_parts Tryz.infoStr
  have h := run_make (P := Tryz.prog) w 63 9 i0 (.string ByteArray.empty) Tryz.underlying63 hi hz0 .i64 .i64 n n (by omega) (Int.le_refl _) (by rw [hz2]; omega) (by omega)
  simp only [Int.toNat_natCast, hz1] at h
  rw [h, ← made_strs]
  rfl
end
section
/-- Noughts. (Behind a name: simp writes a numeral's replicate out.) -/
def zeros (n : Nat) : List UInt8 := List.replicate n 0
theorem zeros_length (n : Nat) : (zeros n).length = n := by simp [zeros]
theorem zeros_drop (n k : Nat) : (zeros n).drop k = zeros (n - k) := by simp [zeros]
/-- A sector: what was written, with noughts behind. -/
def pad (s : ByteArray) : List UInt8 := s.data.toList ++ zeros (512 - s.size)
def sect (s : Dsk) (i : Int) : ByteArray := s.now.getD i.toNat ByteArray.empty
def readOf (s : Dsk) (i : Int) : List UInt8 := if faultOf s i = 0 then pad (sect s i) else []
theorem size_toList (s : ByteArray) : s.data.toList.length = s.size := by rw [Array.length_toList]; rfl
theorem pad_length (s : ByteArray) (hs : s.size ≤ 512) : (pad s).length = 512 := by rw [pad, List.length_append, size_toList, zeros_length]; omega
theorem made_bytes (n : Nat) : madeCells #[.int .u8 0] (n * 1) = (vbs (zeros n)).toArray := by
  apply Array.ext'
  rw [Nat.mul_one, toList_madeCells_one]
  simp [vbs, vb, zeros]
theorem run_make_bytes (n : Nat) (m : Int) (hm : m = n) (hn : n ≤ 1099511627776) (w : World) :
    (Instr.makeSlice 111 (.int .i64 m) (.int .i64 m)).run Tryz.prog w = .ok (.slice (some ⟨w.heap.size, 0, none⟩) n n) (w.alloc (.cells (vbs (zeros n)).toArray 5)) := by
  subst hm
  obtain ⟨i0, hi, hz0, hz1, hz2⟩ := info_parts Tryz.infoU8
  have h := run_make (P := Tryz.prog) w 111 5 i0 (.int .u8 0) Tryz.underlying111 hi hz0 .i64 .i64 n n (by omega) (Int.le_refl _) (by rw [hz2]; omega) (by omega)
  simp only [Int.toNat_natCast, hz1] at h
  rw [h, ← made_bytes]
  rfl
theorem Blk.own {w : World} {g : Nat} {l : List UInt8} {base : Nat} (h : Blk w g (vbs l).toArray 5) (hb : base ≤ g) (hl : l.length ≤ maxLen) : Own w base (.slice (some ⟨g, 0, none⟩) l.length l.length) l :=
  ⟨by simp [vbs], .inr ⟨g, l.length, _, rfl, hb, h, Nat.le_refl _, hl, by simp [vbs], by rw [Nat.mul_one]; exact List.take_of_length_le (by simp [vbs])⟩⟩
set_option maxRecDepth 100000 in
/-- copy(b, s), b a new row of a sector's bytes. -/
theorem wpList_copy_pad {w : World} {ops : Array Oper} {rest : List Oper} {o : Oper} {a : Act} {Q : Exit → Act → World → Prop} (hgd : o.guard = none) (d x : Operand)
    (ho : o.op = .call { callee := .builtin .copy, args := #[d, x], argTypes := #[111, 9] }) (g : Nat) (s : ByteArray)
    (hd : a.eval d = .slice (some ⟨g, 0, none⟩) 512 512) (hx : a.eval x = .string s) (hg : Blk w g (vbs (zeros 512)).toArray 5) (hs : s.size ≤ 512)
    (h : ∀ w', Blk w' g (vbs (pad s)).toArray 5 → w.grownBy w' (some g) → wpList Tryz.prog ops Q rest (a.put o.dst (goInt s.size)) w') : wpList Tryz.prog ops Q (o :: rest) a w := by
  refine wpList_plain hgd fun K hK => ?_
  have hsz : (Tryz.prog.info? 5).map (·.size) = some 1 := by kernel_rfl
  have hrun := Lib.run_copy_row_string (P := Tryz.prog) w 111 9 o.type 5 g 0 512 512 s _ 5 Tryz.underlying111 hsz hg hs (by rw [List.size_toArray, vbs_length, zeros_length]; omega)
  have e : (((vbs (zeros 512)).toArray.toList.take 0 ++ Lib.byteCells s.data.toList ++ (vbs (zeros 512)).toArray.toList.drop (0 + s.size)).toArray : Array Value) = (vbs (pad s)).toArray := by
    rw [List.take_zero, List.nil_append, Nat.zero_add, pad, vbs_append, ← zeros_drop]
    congr 2
    exact (List.map_drop ..).symm
  rw [e] at hrun
  unfold Oper.wp
  simp [execOp, ho, resolve, invoke, builtin, hd, hx, hrun, Result.andThen]
  exact hK _ _ (h _ (setRow_heap w g _ _ _ _ hg) ⟨rfl, rfl, rfl, by simp [World.setRow], fun k _ hk => setRow_other w g k _ (fun e => hk (by simp [e]))⟩)
end
section
def Dsk.put (s : Dsk) (k : Nat) (x : ByteArray) : Dsk := { s with now := s.now.set k x, since := s.since ++ [(k, x)] }
def writeErr (s : Dsk) (i : Int) (l : List UInt8) : Int := if faultOf s i ≠ 0 then faultOf s i else if 512 < l.length then 1 else deadErr (s.put i.toNat ⟨l.toArray⟩).step
def Dsk.write (s : Dsk) (i : Int) (l : List UInt8) : Dsk := if faultOf s i = 0 ∧ l.length ≤ 512 then (s.put i.toNat ⟨l.toArray⟩).step else s
theorem wcells_snoc (l : List (Nat × ByteArray)) (p : Nat × ByteArray) : wcells (l ++ [p]) = wcells l ++ [.int .i64 (p.1 : Int), .string p.2] := by simp [wcells]
theorem strs_set (l : List ByteArray) (k : Nat) (x : ByteArray) : (strs l).toArray.setIfInBounds k (.string x) = (strs (l.set k x)).toArray := by
  apply Array.ext'
  simp [strs, List.map_set]
theorem grown_keep {w w' : World} {row : Option Nat} {b : Nat} {cur : Array Value} {t : TypeId} (hg : w.grownBy w' row) (h : Blk w b cur t) (hne : row ≠ some b) : Blk w' b cur t :=
  (hg.block b h.lt (Ne.symm hne)).trans h
end
section
end
section
def syncErr (s : Dsk) : Int := if s.dead then 13 else deadErr s.step
def Dsk.sync (s : Dsk) : Dsk := if s.dead then s else if s.step.dead then s.step else { s.step with kept := s.now, since := [] }
/-- copy(a, b), two rows of so many texts. -/
theorem step_copy_row {ops : Array Oper} {o : Oper} {a : Act} {w : World} {K : Act → World → Prop} {Q : Exit → Act → World → Prop} {E : Prop} (hgd : o.guard = none) (d x : Operand)
    (ho : o.op = .call { callee := .builtin .copy, args := #[d, x], argTypes := #[63, 63] }) (bd bs n : Nat)
    (hd : a.eval d = .slice (some ⟨bd, 0, none⟩) n n) (hx : a.eval x = .slice (some ⟨bs, 0, none⟩) n n) (old new : List ByteArray) (h1 : old.length = n) (h2 : new.length = n)
    (hbd : Blk w bd (strs old).toArray 9) (hbs : Blk w bs (strs new).toArray 9)
    (h : ∀ w', Blk w' bd (strs new).toArray 9 → Moved (· = bd) w w' → K (a.put o.dst (goInt n)) w') :
    if Region.wanted o (yielded ops a.tmps) = true then Oper.wp Tryz.prog o a w K Q else E := by
  have hw : Region.wanted o (yielded ops a.tmps) = true := by simp [Region.wanted, hgd]
  rw [if_pos hw]
  have hsz : (Tryz.prog.info? 9).map (·.size) = some 1 := by kernel_rfl
  have hlen : (strs new).length = n := by simp [strs, h2]
  have hlen' : (strs old).length = n := by simp [strs, h1]
  have hrun := run_copy_row (P := Tryz.prog) w 63 63 o.type 9 bd 0 n n ⟨bs, 0, none⟩ n n (strs old).toArray 9 (strs new) Tryz.underlying63 hsz hbd (by simp [hlen])
    (fun j v hj => by rw [show (⟨bs, 0, none⟩ : Addr).add j = ⟨bs, j, none⟩ from by unfold Addr.add; split <;> simp_all, hbs.cell]; simpa using hj) (by simp [hlen, hlen'])
    (fun v hv => by obtain ⟨_, _, rfl⟩ := List.mem_map.1 hv; rfl)
  have e : ((strs old).toArray.toList.take 0 ++ strs new ++ (strs old).toArray.toList.drop (0 + (strs new).length)).toArray = (strs new).toArray := by
    rw [List.take_zero, List.nil_append, List.drop_of_length_le (by simp [hlen, hlen']), List.append_nil]
  rw [e, hlen] at hrun
  unfold Oper.wp
  simp [execOp, ho, resolve, invoke, builtin, hd, hx, hrun, Result.andThen]
  exact h _ (setRow_heap w bd _ _ _ _ hbd) ⟨rfl, rfl, rfl, by simp [World.setRow], fun k _ hk => setRow_other w bd k _ hk⟩
end
section
/-- What Crash makes of the kept rows, from the first i Writes. -/
def laid (kept : List ByteArray) (l : List (Nat × ByteArray)) (keep : List Bool) : Nat → List ByteArray
  | 0 => kept
  | i + 1 => if keep.getD i false then (laid kept l keep i).set (l.getD i (0, ByteArray.empty)).1 (l.getD i (0, ByteArray.empty)).2 else laid kept l keep i
end
section
section
end
section
theorem Own.word {w : World} {base : Nat} {v : Value} {l : List UInt8} (h : Own w base v l) (hl : l.length = 512) :
    ∃ g cap, v = .slice (some ⟨g, 0, none⟩) 512 cap ∧ 512 ≤ cap ∧ cap ≤ maxLen ∧ base ≤ g ∧ g < w.heap.size ∧ ∀ j (hj : j < l.length), w.cell? ⟨g, j, none⟩ = some (vb l[j]) := by
  obtain ⟨g, cap, hv, h1, h2, h3, h4, h5⟩ := h.at (by omega)
  exact ⟨g, cap, by rw [hv, hl], by omega, h2, h3, h4, h5⟩
end
section
end
end
end Go.Proofs.YtecomfhbdonkbaaGreatDoor
