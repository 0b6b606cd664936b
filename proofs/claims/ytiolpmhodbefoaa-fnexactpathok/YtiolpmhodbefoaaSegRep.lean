import Derived.Test.YtiolpmhodbefoaaArgRow
namespace Go.Proofs.Ytiolpmhodbefoaa
open Go.RowKit

structure PStep where
  byI : Bool
  name : ByteArray
  idx : Int
structure PFOp where
  k : Int
  n : Int
  s : ByteArray
  root : Bool
  steps : List PStep
structure PSel where
  k : Int
  name : ByteArray
  hasA : Bool
  hasB : Bool
  hasC : Bool
  a : Int
  b : Int
  c : Int
  cond : List PFOp
structure PSeg where
  deep : Bool
  sels : List PSel
def stepR : RElem PStep where
  wd := 3
  R := fun _ vs m => vs = [.bool m.byI, .string m.name, .int .i64 m.idx] ∧ m.name.size ≤ maxLen
  len := fun h => by rw [h.1]; rfl
  keep := fun h _ => h
def stepE : Elem PStep where
  T := 94
  wd := 3
  E := fun _ vs m bl => vs = [.bool m.byI, .string m.name, .int .i64 m.idx] ∧ bl = []
  len := fun h => by rw [h.1]; rfl
  lt := fun h b hb => by rw [h.2] at hb; cases hb
  keep := fun h _ => h
def fopR : RElem PFOp where
  wd := 5
  R := fun w vs m => ∃ q, vs = [.int .i64 m.k, .int .i64 m.n, .string m.s, .bool m.root, q] ∧ m.s.size ≤ maxLen ∧ RRow stepR w q m.steps
  len := fun h => by obtain ⟨q, h, _⟩ := h; rw [h]; rfl
  keep := fun h hb => by obtain ⟨q, h1, h0, h2⟩ := h; exact ⟨q, h1, h0, h2.below hb⟩
def fopE : Elem PFOp where
  T := 65
  wd := 5
  E := fun w vs m bl => ∃ q, vs = [.int .i64 m.k, .int .i64 m.n, .string m.s, .bool m.root, q] ∧ ORow stepE w q m.steps bl
  len := fun h => by obtain ⟨q, h, _⟩ := h; rw [h]; rfl
  lt := fun h => by obtain ⟨q, _, h⟩ := h; exact h.lt
  keep := fun h hk => by obtain ⟨q, h1, h2⟩ := h; exact ⟨q, h1, h2.keep hk⟩
def selR : RElem PSel where
  wd := 9
  R := fun w vs m => ∃ q, vs = [.int .i64 m.k, .string m.name, .bool m.hasA, .bool m.hasB, .bool m.hasC, .int .i64 m.a, .int .i64 m.b, .int .i64 m.c, q] ∧ m.name.size ≤ maxLen ∧ RRow fopR w q m.cond
  len := fun h => by obtain ⟨q, h, _⟩ := h; rw [h]; rfl
  keep := fun h hb => by obtain ⟨q, h1, h0, h2⟩ := h; exact ⟨q, h1, h0, h2.below hb⟩
def selE : Elem PSel where
  T := 43
  wd := 9
  E := fun w vs m bl => ∃ q, vs = [.int .i64 m.k, .string m.name, .bool m.hasA, .bool m.hasB, .bool m.hasC, .int .i64 m.a, .int .i64 m.b, .int .i64 m.c, q] ∧ ORow fopE w q m.cond bl
  len := fun h => by obtain ⟨q, h, _⟩ := h; rw [h]; rfl
  lt := fun h => by obtain ⟨q, _, h⟩ := h; exact h.lt
  keep := fun h hk => by obtain ⟨q, h1, h2⟩ := h; exact ⟨q, h1, h2.keep hk⟩
def segR : RElem PSeg where
  wd := 2
  R := fun w vs m => ∃ q, vs = [.bool m.deep, q] ∧ RRow selR w q m.sels
  len := fun h => by obtain ⟨q, h, _⟩ := h; rw [h]; rfl
  keep := fun h hb => by obtain ⟨q, h1, h2⟩ := h; exact ⟨q, h1, h2.below hb⟩
def segE : Elem PSeg where
  T := 39
  wd := 2
  E := fun w vs m bl => ∃ q, vs = [.bool m.deep, q] ∧ ORow selE w q m.sels bl
  len := fun h => by obtain ⟨q, h, _⟩ := h; rw [h]; rfl
  lt := fun h => by obtain ⟨q, _, h⟩ := h; exact h.lt
  keep := fun h hk => by obtain ⟨q, h1, h2⟩ := h; exact ⟨q, h1, h2.keep hk⟩
end Go.Proofs.Ytiolpmhodbefoaa
