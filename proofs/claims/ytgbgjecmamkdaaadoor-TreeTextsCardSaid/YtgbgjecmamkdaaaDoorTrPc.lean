/-
  The project's reader: tree and kids.
-/
import Derived.Test.YtgbgjecmamkdaaaDoorTrPb
namespace Go.Proofs.YtgbgjecmamkdaaaDoor
open Go.RowKit Go.Maps
set_option linter.unusedVariables false
set_option linter.unusedSimpArgs false
set_option maxRecDepth 100000
set_option maxHeartbeats 2000000

/-- Every number of a tree is one of 64 bits. -/
def wfT (t : Tr) : Prop := I64 t.n ∧ wfL t.kids
/-- What reading a tree does. -/
structure TreeRes (w : World) (g mb : Nat) (rest : List UInt8) (room : Int) (w' : World) (t : Tr) (A : Option Addr) (c : Nat) (rest' : List UInt8) (room' : Int) : Prop where
  op : I64 t.op
  n : I64 t.n
  le : t.kids.len ≤ c
  cap : c ≤ maxLen
  kid : KidP (fun b => w.heap.size ≤ b) w' t.kids A
  rd : Reads w w' g mb rest' room'
  len : rest'.length ≤ rest.length
  r0 : 0 ≤ room'
  r1 : room' ≤ room
  back : ∀ (t0 : Tr) (r : List UInt8), okT t0 = true → wfT t0 → rest = textT t0 ++ r → ((t0.kids.size + 1 : Nat) : Int) ≤ room → t = t0 ∧ rest' = r ∧ room' = room - ((t0.kids.size + 1 : Nat) : Int)
def TreePost (w : World) (g mb : Nat) (rest : List UInt8) (room : Int) (e : Ending) (w' : World) : Prop := ∃ t A c rest' room', e = .returned (trV t A c) ∧ TreeRes w g mb rest room w' t A c rest' room'
def TreeC (n : Nat) : Prop := ∀ (w : World) (g mb B : Nat) (rest : List UInt8) (room : Int), room < n → 0 ≤ room → room ≤ 200 → Rd w g mb rest room → EnvP w B → rest.length < 4294967281 → B ≤ g → B ≤ w.heap.size →
  Calls Tryd.prog 37 #[.pointer (some ⟨g, 0, none⟩)] w (TreePost w g mb rest room)
structure KidsRes (w : World) (g mb : Nat) (rest : List UInt8) (room : Int) (k : Nat) (w' : World) (x : Trs) (A : Option Addr) (c : Nat) (rest' : List UInt8) (room' : Int) : Prop where
  n : x.len = k
  le : x.len ≤ c
  cap : c ≤ maxLen
  kid : KidP (fun b => w.heap.size ≤ b) w' x A
  rd : Reads w w' g mb rest' room'
  len : rest'.length ≤ rest.length
  r0 : 0 ≤ room'
  r1 : room' ≤ room
  back : ∀ (x0 : Trs) (r : List UInt8), x0.len = k → okL x0 = true → wfL x0 → rest = joinC (textsL x0) ++ (41 :: r) → (x0.size : Int) ≤ room → x = x0 ∧ rest' = r ∧ room' = room - (x0.size : Int)
def KidsPost (w : World) (g mb : Nat) (rest : List UInt8) (room : Int) (k : Nat) (e : Ending) (w' : World) : Prop := ∃ x A c rest' room', e = .returned (.slice A x.len c) ∧ KidsRes w g mb rest room k w' x A c rest' room'
theorem made1 (W : World) : (Instr.makeSlice 22 (.int .i64 1) (.int .i64 1)).run Tryd.prog W = .ok (.slice (some ⟨W.heap.size, 0, none⟩) 1 1) (W.alloc (.cells #[.int .i64 0, .int .i64 0, .slice none 0 0] 28)) := by kernel_rfl
theorem made2 (W : World) : (Instr.makeSlice 22 (.int .i64 2) (.int .i64 2)).run Tryd.prog W = .ok (.slice (some ⟨W.heap.size, 0, none⟩) 2 2) (W.alloc (.cells #[.int .i64 0, .int .i64 0, .slice none 0 0, .int .i64 0, .int .i64 0, .slice none 0 0] 28)) := by kernel_rfl
/-- One tree has been read, into the row bl. -/
structure K1 (w : World) (g mb bl : Nat) (rest : List UInt8) (room : Int) (wr : World) (t : Tr) (A : Option Addr) (c : Nat) (rest' : List UInt8) (room' : Int) : Prop where
  op : I64 t.op
  n : I64 t.n
  le : t.kids.len ≤ c
  cap : c ≤ maxLen
  kid : KidP (fun b => bl < b) wr t.kids A
  rd : Reads w wr g mb rest' room'
  len : rest'.length ≤ rest.length
  r0 : 0 ≤ room'
  r1 : room' ≤ room
  back : ∀ (t0 : Tr) (r : List UInt8), okT t0 = true → wfT t0 → rest = textT t0 ++ r → ((t0.kids.size + 1 : Nat) : Int) ≤ room → t = t0 ∧ rest' = r ∧ room' = room - ((t0.kids.size + 1 : Nat) : Int)
theorem Rd.other {w : World} {g mb : Nat} {rest : List UInt8} {room : Int} (h : Rd w g mb rest room) (a : Addr) (v : Value) (h1 : a.block ≠ g) (h2 : a.block ≠ mb) : Rd (w.setCell a v) g mb rest room :=
  ⟨h.own.setCell a v h1, h.map.keep (Below.heap_setCell _ _ _ _ (fun e => h2 e.symm))⟩
theorem kids1 (n : Nat) (IH : TreeC n) (w : World) (g mb B : Nat) (rest : List UInt8) (room : Int) (hn : room < n) (hr0 : 0 ≤ room) (hr1 : room ≤ 200) (hR : Rd w g mb rest room) (hE : EnvP w B) (hlen : rest.length < 4294967281) (hB : B ≤ g) (hBw : B ≤ w.heap.size) :
    Calls Tryd.prog 53 #[.pointer (some ⟨g, 0, none⟩), .int .i64 1] w (KidsPost w g mb rest room 1) := by
  have hmk := made1
  have hg := lt_of_blk hR.own.blk
  have hmb := hR.map.lt
  have HR := Lib.hid hR
  have HE := Lib.hid hE
  have HLen := Lib.hid hlen
  clear hR hE hlen
  go_enter Tryd.func53, Tryd.ntmps53
  go_wp2_with fail
  go_loopw [6, 11, 12, 13, 14, 15, 16, 17, 18, 19, 20, 21, 22, 23] (fun _ i _ _ _ _ _ _ _ _ _ _ _ _ wr => (i = .int .i64 0 ∧ wr = w.alloc (.cells #[.int .i64 0, .int .i64 0, .slice none 0 0] 28)) ∨
    (i = .int .i64 1 ∧ ∃ t A c rest' room', OwnB wr w.heap.size #[.int .i64 t.op, .int .i64 t.n, .slice A t.kids.len c] 28 ∧ K1 w g mb w.heap.size rest room wr t A c rest' room')) (fun _ i _ _ _ _ _ _ _ _ _ _ _ _ _ => 1 - (intOf i).toNat)
  case atStart => exact .inl ⟨rfl, rfl⟩
  case round =>
    rcases hrel with ⟨rfl, rfl⟩ | ⟨rfl, t, A, c, rest', room', hO, hK⟩
    · have hb0 := (Below.refl w.heap.size w).alloc (Nat.le_refl _) (.cells #[.int .i64 0, .int .i64 0, .slice none 0 0] 28)
      have CT := Lib.hid (IH _ g mb B rest room hn hr0 hr1 (HR.out.keep hb0) (HE.out.low (hb0.mono hBw)) HLen.out hB (Nat.le_trans hBw hb0.size))
      have HB0 := Lib.hid hb0
      clear hb0
      go_wp2_with fail
      refine CT.out.mono ?_
      rintro e w1 ⟨t, A, c, rest', room', rfl, hT⟩
      have O1 : OwnB w1 w.heap.size #[.int .i64 0, .int .i64 0, .slice none 0 0] 28 := OwnB.call (OwnB.new rfl) hT.rd.kp (by simp; omega)
      obtain ⟨y1, x1, z1⟩ := O1.facts
      have HT := Lib.hid hT
      have HO1 := Lib.hid O1
      clear hT O1
      go_wp2_with fail
      go_roundw
      case measure => simp [intOf]
      case rel =>
        refine .inr ⟨rfl, t, A, c, rest', room', ?_, ?_⟩
        · exact ((HO1.out.set 0 _).set 1 _).set 2 _
        · have hT := HT.out
          refine ⟨hT.op, hT.n, hT.le, hT.cap, hT.kid.keep (fun p v hp h => keeps_some (Keeps.au (G := [w.heap.size])) p v h (by simp only [World.size_alloc] at hp; simp; omega)) (fun b hb _ => by simp only [World.size_alloc] at hb; omega), ⟨?_, ?_⟩, hT.len, hT.r0, hT.r1, hT.back⟩
          · exact ((hT.rd.rd.other _ _ (by simp; omega) (by simp; omega)).other _ _ (by simp; omega) (by simp; omega)).other _ _ (by simp; omega) (by simp; omega)
          · exact (Keeps.of_below HB0.out).then_ (H := [g, w.heap.size]) ((hT.rd.kp.mono (by simp)).trans (Keeps.au (G := [g, w.heap.size]))) (by simp)
    · have HO := Lib.hid hO
      have HK := Lib.hid hK
      have hB2 : Below B w wr := keeps_low hK.rd.kp hB hBw
      have CU := Lib.hid (upTo_any wr g mb B rest' [41] room' hK.rd.rd (HE.out.low hB2) (by have := hK.len; have := HLen.out; omega) hB)
      have HC := Lib.hid (cut_len rest' [41])
      clear hO hK hB2
      go_wp2_with fail
      refine CU.out.mono ?_
      rintro e w2 ⟨rfl, hR2⟩
      have O2 : OwnB w2 w.heap.size #[.int .i64 t.op, .int .i64 t.n, .slice A t.kids.len c] 28 := OwnB.call HO.out hR2.kp (by simp; omega)
      have HR2 := Lib.hid hR2
      have HO2 := Lib.hid O2
      clear hR2 O2
      go_wp2_with fail
      go_ret
      have hK := HK.out
      have hz := hK.rd.kp.size
      refine ⟨.cons t.op t.n t.kids .nil, some ⟨w.heap.size, 0, none⟩, 1, (Lib.cut rest' [41]).2.1, room', rfl, ⟨rfl, Nat.le_refl _, by decide, fun _ => ⟨w.heap.size, 0, rfl, ?_⟩, hK.rd.trans HR2.out, by have := HC.out.2; have := hK.len; omega, hK.r0, hK.r1, ?_⟩⟩
      · obtain ⟨y2, _, _⟩ := HO2.out.facts
        refine ⟨Nat.le_refl _, hK.op, hK.n, ⟨A, c, y2 0, y2 1, y2 2, hK.le, hK.cap, fun h0 => ?_⟩, trivial⟩
        obtain ⟨b, off, e, h1⟩ := hK.kid h0
        exact ⟨b, off, e, h1.keep (fun p v hp h => keeps_some HR2.out.kp p v h (by simp only [List.mem_singleton]; omega)) (fun b hb _ => by omega) _ _ _⟩
      · intro x0 r hx ho hw hr hs
        match x0, hx with
        | .cons op0 n0 k0 .nil, _ =>
          rw [okL] at ho
          simp only [Bool.and_eq_true] at ho
          have hb := hK.back ⟨op0, n0, k0⟩ (41 :: r) (by rw [okT]; simp [ho.1.1, ho.1.2]) ⟨hw.1, hw.2.1⟩ (by simpa [textsL, joinC, textT] using hr) (by simp only [Trs.size] at hs; omega)
          obtain ⟨h1, h2, h3⟩ := hb
          subst h1
          refine ⟨rfl, ?_, ?_⟩
          · rw [h2]; exact congrArg (·.2.1) (cut_here [41] r)
          · rw [h3]; simp [Trs.size]
/-- Two trees have been read. -/
structure K2 (w : World) (g mb bl : Nat) (rest : List UInt8) (room : Int) (wr : World) (t : Tr) (A : Option Addr) (c : Nat) (u : Tr) (D : Option Addr) (d : Nat) (rest' : List UInt8) (room' : Int) : Prop where
  op : I64 t.op
  n : I64 t.n
  le : t.kids.len ≤ c
  cap : c ≤ maxLen
  kid : KidP (fun b => bl < b) wr t.kids A
  op2 : I64 u.op
  n2 : I64 u.n
  le2 : u.kids.len ≤ d
  cap2 : d ≤ maxLen
  kid2 : KidP (fun b => bl < b) wr u.kids D
  rd : Reads w wr g mb rest' room'
  len : rest'.length ≤ rest.length
  r0 : 0 ≤ room'
  r1 : room' ≤ room
  back : ∀ (a b : Tr) (r : List UInt8), okT a = true → wfT a → okT b = true → wfT b → rest = textT a ++ (44 :: 32 :: (textT b ++ r)) → ((a.kids.size + 1 + (b.kids.size + 1) : Nat) : Int) ≤ room → t = a ∧ u = b ∧ rest' = r ∧ room' = room - ((a.kids.size + 1 + (b.kids.size + 1) : Nat) : Int)
theorem kids2 (n : Nat) (IH : TreeC n) (w : World) (g mb B : Nat) (rest : List UInt8) (room : Int) (hn : room < n) (hr0 : 0 ≤ room) (hr1 : room ≤ 200) (hR : Rd w g mb rest room) (hE : EnvP w B) (hlen : rest.length < 4294967281) (hB : B ≤ g) (hBw : B ≤ w.heap.size) :
    Calls Tryd.prog 53 #[.pointer (some ⟨g, 0, none⟩), .int .i64 2] w (KidsPost w g mb rest room 2) := by
  have hmk := made2
  have hg := lt_of_blk hR.own.blk
  have hmb := hR.map.lt
  have HR := Lib.hid hR
  have HE := Lib.hid hE
  have HLen := Lib.hid hlen
  clear hR hE hlen
  go_enter Tryd.func53, Tryd.ntmps53
  go_wp2_with fail
  go_loopw [6, 11, 12, 13, 14, 15, 16, 17, 18, 19, 20, 21, 22, 23] (fun _ i _ _ _ _ _ _ _ _ _ _ _ _ wr => (i = .int .i64 0 ∧ wr = w.alloc (.cells #[.int .i64 0, .int .i64 0, .slice none 0 0, .int .i64 0, .int .i64 0, .slice none 0 0] 28)) ∨
    (i = .int .i64 1 ∧ ∃ t A c rest' room', OwnB wr w.heap.size #[.int .i64 t.op, .int .i64 t.n, .slice A t.kids.len c, .int .i64 0, .int .i64 0, .slice none 0 0] 28 ∧ K1 w g mb w.heap.size rest room wr t A c rest' room') ∨
    (i = .int .i64 2 ∧ ∃ t A c u D d rest' room', OwnB wr w.heap.size #[.int .i64 t.op, .int .i64 t.n, .slice A t.kids.len c, .int .i64 u.op, .int .i64 u.n, .slice D u.kids.len d] 28 ∧ K2 w g mb w.heap.size rest room wr t A c u D d rest' room')) (fun _ i _ _ _ _ _ _ _ _ _ _ _ _ _ => 2 - (intOf i).toNat)
  case atStart => exact .inl ⟨rfl, rfl⟩
  case round =>
    rcases hrel with ⟨rfl, rfl⟩ | ⟨rfl, t, A, c, rest', room', hO, hK⟩ | ⟨rfl, t, A, c, u, D, d, rest', room', hO, hK⟩
    · have hb0 := (Below.refl w.heap.size w).alloc (Nat.le_refl _) (.cells #[.int .i64 0, .int .i64 0, .slice none 0 0, .int .i64 0, .int .i64 0, .slice none 0 0] 28)
      have CT := Lib.hid (IH _ g mb B rest room hn hr0 hr1 (HR.out.keep hb0) (HE.out.low (hb0.mono hBw)) HLen.out hB (Nat.le_trans hBw hb0.size))
      have HB0 := Lib.hid hb0
      clear hb0
      go_wp2_with fail
      refine CT.out.mono ?_
      rintro e w1 ⟨t, A, c, rest', room', rfl, hT⟩
      have O1 : OwnB w1 w.heap.size #[.int .i64 0, .int .i64 0, .slice none 0 0, .int .i64 0, .int .i64 0, .slice none 0 0] 28 := OwnB.call (OwnB.new rfl) hT.rd.kp (by simp; omega)
      obtain ⟨y1, x1, z1⟩ := O1.facts
      have HT := Lib.hid hT
      have HO1 := Lib.hid O1
      clear hT O1
      go_wp2_with fail
      go_roundw
      case measure => simp [intOf]
      case rel =>
        refine .inr (.inl ⟨rfl, t, A, c, rest', room', ?_, ?_⟩)
        · exact ((HO1.out.set 0 _).set 1 _).set 2 _
        · have hT := HT.out
          refine ⟨hT.op, hT.n, hT.le, hT.cap, hT.kid.keep (fun p v hp h => keeps_some (Keeps.au (G := [w.heap.size])) p v h (by simp only [World.size_alloc] at hp; simp; omega)) (fun b hb _ => by simp only [World.size_alloc] at hb; omega), ⟨?_, ?_⟩, hT.len, hT.r0, hT.r1, hT.back⟩
          · exact ((hT.rd.rd.other _ _ (by simp; omega) (by simp; omega)).other _ _ (by simp; omega) (by simp; omega)).other _ _ (by simp; omega) (by simp; omega)
          · exact (Keeps.of_below HB0.out).then_ (H := [g, w.heap.size]) ((hT.rd.kp.mono (by simp)).trans (Keeps.au (G := [g, w.heap.size]))) (by simp)
    · have HO := Lib.hid hO
      have HK := Lib.hid hK
      have hB2 : Below B w wr := keeps_low hK.rd.kp hB hBw
      have CU := Lib.hid (upTo_any wr g mb B rest' [44, 32] room' hK.rd.rd (HE.out.low hB2) (by have := hK.len; have := HLen.out; omega) hB)
      have HC := Lib.hid (cut_len rest' [44, 32])
      have hz0 := lt_of_blk hO.blk
      have HB2 := Lib.hid hB2
      clear hO hK hB2
      go_wp2_with fail
      refine CU.out.mono ?_
      rintro e w2 ⟨rfl, hR2⟩
      have O2 : OwnB w2 w.heap.size #[.int .i64 t.op, .int .i64 t.n, .slice A t.kids.len c, .int .i64 0, .int .i64 0, .slice none 0 0] 28 := OwnB.call HO.out hR2.kp (by simp; omega)
      have HR2 := Lib.hid hR2
      have HO2 := Lib.hid O2
      have HB3 := Lib.hid (HB2.out.trans (keeps_low hR2.kp hB (Nat.le_trans hBw HB2.out.size)))
      have hz2 := hR2.kp.size
      clear hR2 O2
      have CT := Lib.hid (IH w2 g mb B (Lib.cut rest' [44, 32]).2.1 room' (by have := HK.out.r1; omega) HK.out.r0 (by have := HK.out.r1; omega) HR2.out.rd (HE.out.low HB3.out) (by have := HC.out.2; have := HK.out.len; have := HLen.out; omega) hB (Nat.le_trans hBw HB3.out.size))
      go_wp2_with fail
      refine CT.out.mono ?_
      rintro e w3 ⟨u, D, d, rest2, room2, rfl, hT⟩
      have O3 : OwnB w3 w.heap.size #[.int .i64 t.op, .int .i64 t.n, .slice A t.kids.len c, .int .i64 0, .int .i64 0, .slice none 0 0] 28 := OwnB.call HO2.out hT.rd.kp (by simp; omega)
      obtain ⟨y3, x3, z3⟩ := O3.facts
      have HT := Lib.hid hT
      have HO3 := Lib.hid O3
      clear hT O3
      go_wp2_with fail
      go_roundw
      case measure => simp [intOf]
      case rel =>
        refine .inr (.inr ⟨rfl, t, A, c, u, D, d, rest2, room2, ?_, ?_⟩)
        · exact ((HO3.out.set 3 _).set 4 _).set 5 _
        · have hT := HT.out
          have hK := HK.out
          have hkp : Keeps [g] wr w3 := HR2.out.kp.trans hT.rd.kp
          have hmb2 := hT.rd.rd.map.lt
          refine ⟨hK.op, hK.n, hK.le, hK.cap, ?_, hT.op, hT.n, hT.le, hT.cap, ?_, ⟨?_, ?_⟩, ?_, hT.r0, by have := hT.r1; have := hK.r1; omega, ?_⟩
          · exact hK.kid.keep (fun p v hp h => keeps_some (Keeps.au (G := [w.heap.size])) p v (keeps_some hkp p v h (by simp only [List.mem_singleton]; omega)) (by simp; omega)) (fun b hb _ => hb)
          · exact hT.kid.keep (fun p v hp h => keeps_some (Keeps.au (G := [w.heap.size])) p v h (by have hp' : w2.heap.size ≤ p.block := hp; simp; omega)) (fun b hb _ => by have hb' : w2.heap.size ≤ b := hb; omega)
          · exact ((hT.rd.rd.other _ _ (by simp; omega) (by simp; omega)).other _ _ (by simp; omega) (by simp; omega)).other _ _ (by simp; omega) (by simp; omega)
          · exact (hK.rd.kp.trans hkp).then_ (H := [g, w.heap.size]) (Keeps.au (G := [g, w.heap.size])) (by simp)
          · have h1 := hT.len; have h2 := HC.out.2; have h3 := hK.len; omega
          · intro a b r ha hwa hb hwb hr hs
            obtain ⟨e1, e2, e3⟩ := hK.back a (44 :: 32 :: (textT b ++ r)) ha hwa hr (by omega)
            obtain ⟨e4, e5, e6⟩ := hT.back b r hb hwb (by rw [e2]; exact congrArg (·.2.1) (cut_here [44, 32] (textT b ++ r))) (by rw [e3]; omega)
            exact ⟨e1, e4, e5, by rw [e6, e3]; omega⟩
    · have HO := Lib.hid hO
      have HK := Lib.hid hK
      have hB2 : Below B w wr := keeps_low hK.rd.kp hB hBw
      have CU := Lib.hid (upTo_any wr g mb B rest' [41] room' hK.rd.rd (HE.out.low hB2) (by have := hK.len; have := HLen.out; omega) hB)
      have HC := Lib.hid (cut_len rest' [41])
      clear hO hK hB2
      go_wp2_with fail
      refine CU.out.mono ?_
      rintro e w2 ⟨rfl, hR2⟩
      have O2 : OwnB w2 w.heap.size #[.int .i64 t.op, .int .i64 t.n, .slice A t.kids.len c, .int .i64 u.op, .int .i64 u.n, .slice D u.kids.len d] 28 := OwnB.call HO.out hR2.kp (by simp; omega)
      have HR2 := Lib.hid hR2
      have HO2 := Lib.hid O2
      clear hR2 O2
      go_wp2_with fail
      go_ret
      have hK := HK.out
      have hz := hK.rd.kp.size
      refine ⟨.cons t.op t.n t.kids (.cons u.op u.n u.kids .nil), some ⟨w.heap.size, 0, none⟩, 2, (Lib.cut rest' [41]).2.1, room', rfl, ⟨rfl, Nat.le_refl _, by decide, fun _ => ⟨w.heap.size, 0, rfl, ?_⟩, hK.rd.trans HR2.out, by have := HC.out.2; have := hK.len; omega, hK.r0, hK.r1, ?_⟩⟩
      · obtain ⟨y2, _, _⟩ := HO2.out.facts
        refine ⟨Nat.le_refl _, hK.op, hK.n, ⟨A, c, y2 0, y2 1, y2 2, hK.le, hK.cap, fun h0 => ?_⟩, Nat.le_refl _, hK.op2, hK.n2, ⟨D, d, y2 3, y2 4, y2 5, hK.le2, hK.cap2, fun h0 => ?_⟩, trivial⟩
        · obtain ⟨b, off, e, h1⟩ := hK.kid h0
          exact ⟨b, off, e, h1.keep (fun p v hp h => keeps_some HR2.out.kp p v h (by simp only [List.mem_singleton]; omega)) (fun b hb _ => by omega) _ _ _⟩
        · obtain ⟨b, off, e, h1⟩ := hK.kid2 h0
          exact ⟨b, off, e, h1.keep (fun p v hp h => keeps_some HR2.out.kp p v h (by simp only [List.mem_singleton]; omega)) (fun b hb _ => by omega) _ _ _⟩
      · intro x0 r hx ho hw hr hs
        match x0, hx with
        | .cons op0 n0 k0 (.cons op1 n1 k1 .nil), _ =>
          simp only [okL, Bool.and_eq_true] at ho
          have hb := hK.back ⟨op0, n0, k0⟩ ⟨op1, n1, k1⟩ (41 :: r) (by rw [okT]; simp [ho.1.1, ho.1.2]) ⟨hw.1, hw.2.1⟩ (by rw [okT]; simp [ho.2.1.1, ho.2.1.2]) ⟨hw.2.2.1, hw.2.2.2.1⟩ (by simpa [textsL, joinC, textT] using hr) (by show ((k0.size + 1 + (k1.size + 1) : Nat) : Int) ≤ room; simp only [Trs.size] at hs; omega)
          obtain ⟨h1, h2, h3, h4⟩ := hb
          subst h1 h2
          refine ⟨rfl, ?_, ?_⟩
          · rw [h3]; exact congrArg (·.2.1) (cut_here [41] r)
          · rw [h4]; simp only [Trs.size]; omega
end Go.Proofs.YtgbgjecmamkdaaaDoor
