/- Package disk: Read. -/
import Derived.Test.YtkhdahipnfloeaaNew
import Derived.Lib.BufferWrite
namespace Go.Proofs.Ytkhdahipnfloeaa
open Go.RowKit
set_option maxRecDepth 100000

/-- Noughts. (Behind a name: simp writes a numeral's replicate out.) -/
def zeros (n : Nat) : List UInt8 := List.replicate n 0
theorem zeros_length (n : Nat) : (zeros n).length = n := by simp [zeros]
theorem zeros_drop (n k : Nat) : (zeros n).drop k = zeros (n - k) := by simp [zeros]
/-- A sector: what was written, with noughts behind. -/
def pad (s : ByteArray) : List UInt8 := s.data.toList ++ zeros (512 - s.size)
def sect (s : Dsk) (i : Int) : ByteArray := s.now.getD i.toNat ByteArray.empty
def readOf (s : Dsk) (i : Int) : List UInt8 := if faultOf s i = 0 then pad (sect s i) else []

theorem size_toList (s : ByteArray) : s.data.toList.length = s.size := by rw [Array.length_toList]; rfl
theorem pad_length (s : ByteArray) (hs : s.size ≤ 512) : (pad s).length = 512 := by rw [pad, List.length_append, size_toList, zeros_length]; omega

theorem made_bytes (n : Nat) : madeCells #[.int .u8 0] (n * 1) = (vbs (zeros n)).toArray := by
  apply Array.ext'
  rw [Nat.mul_one, toList_madeCells_one]
  simp [vbs, vb, zeros]

theorem run_make_bytes (n : Nat) (m : Int) (hm : m = n) (hn : n ≤ 1099511627776) (w : World) :
    (Instr.makeSlice 41 (.int .i64 m) (.int .i64 m)).run Try.prog w = .ok (.slice (some ⟨w.heap.size, 0, none⟩) n n) (w.alloc (.cells (vbs (zeros n)).toArray 5)) := by
  subst hm
  obtain ⟨i0, hi, hz0, hz1, hz2⟩ := info_parts Try.infoU8
  have h := run_make (P := Try.prog) w 41 5 i0 (.int .u8 0) Try.underlying41 hi hz0 .i64 .i64 n n (by omega) (Int.le_refl _) (by rw [hz2]; omega) (by omega)
  simp only [Int.toNat_natCast, hz1] at h
  rw [h, ← made_bytes]
  rfl

theorem Blk.own {w : World} {g : Nat} {l : List UInt8} {base : Nat} (h : Blk w g (vbs l).toArray 5) (hb : base ≤ g) (hl : l.length ≤ maxLen) : Own w base (.slice (some ⟨g, 0, none⟩) l.length l.length) l :=
  ⟨by simp [vbs], .inr ⟨g, l.length, _, rfl, hb, h, Nat.le_refl _, hl, by simp [vbs], by rw [Nat.mul_one]; exact List.take_of_length_le (by simp [vbs])⟩⟩

set_option maxRecDepth 100000 in
/-- copy(b, s), b a new row of a sector's bytes. -/
theorem wpList_copy_pad {w : World} {ops : Array Oper} {rest : List Oper} {o : Oper} {a : Act} {Q : Exit → Act → World → Prop} (hgd : o.guard = none) (d x : Operand)
    (ho : o.op = .call { callee := .builtin .copy, args := #[d, x], argTypes := #[41, 9] }) (g : Nat) (s : ByteArray)
    (hd : a.eval d = .slice (some ⟨g, 0, none⟩) 512 512) (hx : a.eval x = .string s) (hg : Blk w g (vbs (zeros 512)).toArray 5) (hs : s.size ≤ 512)
    (h : ∀ w', Blk w' g (vbs (pad s)).toArray 5 → w.grownBy w' (some g) → wpList Try.prog ops Q rest (a.put o.dst (goInt s.size)) w') : wpList Try.prog ops Q (o :: rest) a w := by
  refine wpList_plain hgd fun K hK => ?_
  have hsz : (Try.prog.info? 5).map (·.size) = some 1 := by kernel_rfl
  have hrun := Lib.run_copy_row_string (P := Try.prog) w 41 9 o.type 5 g 0 512 512 s _ 5 Try.underlying41 hsz hg hs (by rw [List.size_toArray, vbs_length, zeros_length]; omega)
  have e : (((vbs (zeros 512)).toArray.toList.take 0 ++ Lib.byteCells s.data.toList ++ (vbs (zeros 512)).toArray.toList.drop (0 + s.size)).toArray : Array Value) = (vbs (pad s)).toArray := by
    rw [List.take_zero, List.nil_append, Nat.zero_add, pad, vbs_append, ← zeros_drop]
    congr 2
    exact (List.map_drop ..).symm
  rw [e] at hrun
  unfold Oper.wp
  simp [execOp, ho, resolve, invoke, builtin, hd, hx, hrun, Result.andThen]
  exact hK _ _ (h _ (setRow_heap w g _ _ _ _ hg) ⟨rfl, rfl, rfl, by simp [World.setRow], fun k _ hk => setRow_other w g k _ (fun e => hk (by simp [e]))⟩)

theorem read_any (P : Nat → Prop) (r : Nat) (s : Dsk) (i : Int) (w : World) (h : Dk w P r s) :
    Calls Try.prog 32 #[.pointer (some ⟨r, 0, none⟩), .int .i64 i] w fun e w' =>
      ∃ v, e = .returned (.tuple #[v, .int .i64 (faultOf s i)]) ∧ Own w' w.heap.size v (readOf s i) ∧ Below w.heap.size w w' := by
  by_cases hf : faultOf s i = 0
  · have e1 : readOf s i = pad (sect s i) := by simp [readOf, hf]
    have hk := h
    obtain ⟨bn, bk, sv, h⟩ := h
    have hi : 0 ≤ i ∧ i < s.now.length := by
      unfold faultOf at hf
      split at hf
      · simp at hf
      · split at hf
        · assumption
        · simp at hf
    obtain ⟨k, rfl⟩ : ∃ k : Nat, i = k := ⟨i.toNat, by omega⟩
    have hkn : k < s.now.length := by omega
    obtain ⟨x, hx⟩ : ∃ x, x = sect s k := ⟨_, rfl⟩
    have hcx : w.cell? ⟨bn, k, none⟩ = some (.string x) := by
      rw [h.bnow.cell, hx]
      simp [strs, sect, hkn, List.getD]
    have hx2 : x.size ≤ 512 := by
      rw [hx]
      simp [sect, hkn, List.getD]
      exact h.short.1 _ (List.getElem_mem _)
    obtain ⟨c0, -, -, -, -, -, -⟩ := h.top.cells
    have hlr : r < w.heap.size := h.top.lt
    have hlb : bn < w.heap.size := h.bnow.lt
    have hmost := h.most
    have c0' : ∀ o, (w.alloc o).cell? ⟨r, 0, none⟩ = some (.slice (some ⟨bn, 0, none⟩) s.now.length s.now.length) := fun o => by
      rw [World.cell?_of_block (w := w) (Below.heap_alloc w o r hlr)]; exact c0
    have hcx' : ∀ o, (w.alloc o).cell? ⟨bn, k, none⟩ = some (.string x) := fun o => by
      rw [World.cell?_of_block (w := w) (Below.heap_alloc w o bn hlb)]; exact hcx
    have hmk := run_make_bytes 512 512 rfl (by omega)
    have hnb := Blk.new w (vbs (zeros 512)).toArray 5
    have hown : ∀ w', Blk w' w.heap.size (vbs (pad x)).toArray 5 → Own w' w.heap.size (.slice (some ⟨w.heap.size, 0, none⟩) 512 512) (pad x) := fun w' hb => by
      have := hb.own (base := w.heap.size) (Nat.le_refl _) (by rw [pad_length _ hx2]; simp [maxLen])
      rwa [pad_length _ hx2] at this
    have HO := Lib.hid hown
    have hbl : ∀ o, Below w.heap.size w (w.alloc o) := fun o => (Below.refl _ w).alloc (Nat.le_refl _) o
    have HL := Lib.hid hbl
    obtain ⟨n, hn⟩ : ∃ n, n = s.now.length := ⟨_, rfl⟩
    rw [e1, ← hx, hf]
    rw [← hn] at hkn hmost c0'
    clear h hi c0 hcx hlr hlb e1 hown hbl hx hn
    go_enter Try.func32, Try.ntmps32
    go_wp2
    go_step3
    go_wp2_with (first | (go_at_call 49; refine (fault_any P r s k _ hk).mono ?_; rw [hf]; rintro e w' ⟨rfl, rfl⟩) | (with_reducible refine wpList_copy_pad rfl _ _ rfl _ x rfl rfl hnb hx2 ?_; intro w2 hb2 hg2))
    go_step3
    go_wp2
    rw [Exit.noGoto_ret]
    go_ret2
    exact ⟨_, rfl, HO.out _ hb2, (HL.out _).grown hg2 (by simp) (fun q hq => by simp at hq; omega)⟩
  · have e1 : readOf s i = [] := by simp [readOf, hf]
    rw [e1]
    clear e1
    obtain ⟨f, hF⟩ : ∃ f, f = faultOf s i := ⟨_, rfl⟩
    have HF := Lib.hid hF
    rw [← hF] at hf ⊢
    clear hF
    have hb : (f != 0) = true := by simpa using hf
    go_enter Try.func32, Try.ntmps32
    go_wp2_with fail
    refine wp_scope_jumps 0 (fun a' w' => a' = { tmps := #[.pointer (some ⟨r, 0, none⟩), .int .i64 i, undef, undef, .slice none 0 0, .int .i64 0, .slice none 0 0, .int .i64 f, .pointer (some ⟨r, 0, none⟩), .int .i64 i, .int .i64 f, .int .i64 f, .bool true, undef, undef, undef, undef, undef, undef, undef, undef, undef, undef, undef, undef], defers := [] } ∧ w' = w) (fun _ _ => 0) rfl ?_ ?_
    · go_wp2_with (go_at_call 49; refine (fault_any P r s i _ h).mono ?_; rw [← HF.out]; rintro e w' ⟨rfl, rfl⟩)
      go_step3
      exact ⟨rfl, rfl, rfl⟩
    · rintro a' w' ⟨rfl, rfl⟩
      go_wp2
      simp only [Exit.jump]
      go_ret2
      exact ⟨_, rfl, ⟨by simp [vbs], .inl ⟨rfl, rfl⟩⟩, Below.refl _ _⟩
end Go.Proofs.Ytkhdahipnfloeaa
